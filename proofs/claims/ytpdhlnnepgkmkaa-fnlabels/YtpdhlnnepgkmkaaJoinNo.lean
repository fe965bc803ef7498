/-
  The model's Join and Meet where a label is not right.
-/
import Derived.Test.YtpdhlnnepgkmkaaJoin
namespace Go.Proofs.Ytpdhlnnepgkmkaa
open Go.RowKit
set_option linter.unusedVariables false


set_option maxHeartbeats 400000 in
theorem specJoin_no (v u : Value) (xs ys : List Int) (w : World) (hx : IsInts w v xs) (hy : IsInts w u ys) (hn : xs.length ≤ 1048576) (hm : ys.length ≤ 1048576) (h : (labelOk xs && labelOk ys) = false) :
    Calls Try.prog 27 #[.agg #[v], .agg #[u]] w fun e w' => e = .returned (.agg #[.slice none 0 0]) ∧ Below w.heap.size w w' := by
  have F0 := fourOf_four w v u
  have C1 := specLabelOk_any v xs (fourOf w v u) (hx.on F0.below) hn
  have c2 := fun w' (hb : Below w.heap.size w w') => specLabelOk_any u ys w' (hy.on hb) hm
  have C2 : Hid (∀ w', Below w.heap.size w w' → _) := c2
  have HF0 : Hid (Four w v u (.slice none 0 0) (fourOf w v u)) := F0
  clear hx hy F0 c2
  by_cases h1 : labelOk xs = true
  · have h2 : labelOk ys = false := by simpa [h1] using h
    rw [h1] at C1
    simp only [h2] at C2
    clear h h1 h2
    go_enter Try.func27, Try.ntmps27
    go_wp2_with fail
    refine C1.mono ?_
    rintro e w1 ⟨rfl, hb1⟩
    clear C1
    have F1 := HF0.out.on (hb1.mono HF0.out.size)
    have x2 := cell_of_one F1.b1
    have HF1 : Hid (Four w v u (.slice none 0 0) w1) := F1
    clear F1 HF0 hb1
    go_wp2_with fail
    refine (C2.out w1 HF1.out.below).mono ?_
    rintro e w2 ⟨rfl, hb2⟩
    have F2 := HF1.out.on (hb2.mono HF1.out.size)
    have o2 := cell_of_one F2.b2
    have o3 := cell_of_one F2.b3
    have f2 := free_of_one F2.b2
    have HF2 : Hid (Four w v u (.slice none 0 0) w2) := F2
    clear C2 x2 HF1 hb2 F2
    go_wp2
    have q0 : (w2.setCell ⟨w.heap.size + 1 + 1, 0, none⟩ (.slice none 0 0)).cell? ⟨w.heap.size + 1 + 1, 0, none⟩ = some (.slice none 0 0) := World.cell?_setCell_same _ _ _ o2
    refine bodyPost_ret (v := .agg #[.slice none 0 0]) (by simp [results, go_sem, q0]) rfl ⟨rfl, HF2.out.below.setCell (by first | (simp; done) | (simp; omega)) _⟩
  · have h1' : labelOk xs = false := by simpa using h1
    rw [h1'] at C1
    clear h h1 h1' C2
    go_enter Try.func27, Try.ntmps27
    go_wp2_with fail
    refine C1.mono ?_
    rintro e w2 ⟨rfl, hb1⟩
    clear C1
    have F2 := HF0.out.on (hb1.mono HF0.out.size)
    have o2 := cell_of_one F2.b2
    have o3 := cell_of_one F2.b3
    have f2 := free_of_one F2.b2
    have HF2 : Hid (Four w v u (.slice none 0 0) w2) := F2
    clear HF0 hb1 F2
    go_wp2
    have q0 : (w2.setCell ⟨w.heap.size + 1 + 1, 0, none⟩ (.slice none 0 0)).cell? ⟨w.heap.size + 1 + 1, 0, none⟩ = some (.slice none 0 0) := World.cell?_setCell_same _ _ _ o2
    refine bodyPost_ret (v := .agg #[.slice none 0 0]) (by simp [results, go_sem, q0]) rfl ⟨rfl, HF2.out.below.setCell (by first | (simp; done) | (simp; omega)) _⟩

set_option maxHeartbeats 400000 in
theorem specMeet_no (v u : Value) (xs ys : List Int) (w : World) (hx : IsInts w v xs) (hy : IsInts w u ys) (hn : xs.length ≤ 1048576) (hm : ys.length ≤ 1048576) (h : (labelOk xs && labelOk ys) = false) :
    Calls Try.prog 30 #[.agg #[v], .agg #[u]] w fun e w' => e = .returned (.agg #[.slice none 0 0]) ∧ Below w.heap.size w w' := by
  have F0 := fourOf_four w v u
  have C1 := specLabelOk_any v xs (fourOf w v u) (hx.on F0.below) hn
  have c2 := fun w' (hb : Below w.heap.size w w') => specLabelOk_any u ys w' (hy.on hb) hm
  have C2 : Hid (∀ w', Below w.heap.size w w' → _) := c2
  have HF0 : Hid (Four w v u (.slice none 0 0) (fourOf w v u)) := F0
  clear hx hy F0 c2
  by_cases h1 : labelOk xs = true
  · have h2 : labelOk ys = false := by simpa [h1] using h
    rw [h1] at C1
    simp only [h2] at C2
    clear h h1 h2
    go_enter Try.func30, Try.ntmps30
    go_wp2_with fail
    refine C1.mono ?_
    rintro e w1 ⟨rfl, hb1⟩
    clear C1
    have F1 := HF0.out.on (hb1.mono HF0.out.size)
    have x2 := cell_of_one F1.b1
    have HF1 : Hid (Four w v u (.slice none 0 0) w1) := F1
    clear F1 HF0 hb1
    go_wp2_with fail
    refine (C2.out w1 HF1.out.below).mono ?_
    rintro e w2 ⟨rfl, hb2⟩
    have F2 := HF1.out.on (hb2.mono HF1.out.size)
    have o2 := cell_of_one F2.b2
    have o3 := cell_of_one F2.b3
    have f2 := free_of_one F2.b2
    have HF2 : Hid (Four w v u (.slice none 0 0) w2) := F2
    clear C2 x2 HF1 hb2 F2
    go_wp2
    have q0 : (w2.setCell ⟨w.heap.size + 1 + 1, 0, none⟩ (.slice none 0 0)).cell? ⟨w.heap.size + 1 + 1, 0, none⟩ = some (.slice none 0 0) := World.cell?_setCell_same _ _ _ o2
    refine bodyPost_ret (v := .agg #[.slice none 0 0]) (by simp [results, go_sem, q0]) rfl ⟨rfl, HF2.out.below.setCell (by first | (simp; done) | (simp; omega)) _⟩
  · have h1' : labelOk xs = false := by simpa using h1
    rw [h1'] at C1
    clear h h1 h1' C2
    go_enter Try.func30, Try.ntmps30
    go_wp2_with fail
    refine C1.mono ?_
    rintro e w2 ⟨rfl, hb1⟩
    clear C1
    have F2 := HF0.out.on (hb1.mono HF0.out.size)
    have o2 := cell_of_one F2.b2
    have o3 := cell_of_one F2.b3
    have f2 := free_of_one F2.b2
    have HF2 : Hid (Four w v u (.slice none 0 0) w2) := F2
    clear HF0 hb1 F2
    go_wp2
    have q0 : (w2.setCell ⟨w.heap.size + 1 + 1, 0, none⟩ (.slice none 0 0)).cell? ⟨w.heap.size + 1 + 1, 0, none⟩ = some (.slice none 0 0) := World.cell?_setCell_same _ _ _ o2
    refine bodyPost_ret (v := .agg #[.slice none 0 0]) (by simp [results, go_sem, q0]) rfl ⟨rfl, HF2.out.below.setCell (by first | (simp; done) | (simp; omega)) _⟩
end Go.Proofs.Ytpdhlnnepgkmkaa
