/-
  The model's Meet, and both where a label is not right.
-/
import Derived.Test.YtpdhlnnepgkmkaaJoin
namespace Go.Proofs.Ytpdhlnnepgkmkaa
open Go.RowKit
set_option linter.unusedVariables false

/-- The lesser of both, one by one, as far as 'k'. -/
def meetTo (xs ys : List Int) (k : Nat) : List Int := (List.range k).map fun (i : Nat) => min (xs.getD i 0) (ys.getD i 0)
def meetOf (xs ys : List Int) : List Int := if labelOk xs && labelOk ys then meetTo xs ys 4 else []
theorem meetTo_length (xs ys : List Int) (k : Nat) : (meetTo xs ys k).length = k := by simp [meetTo]
theorem meetTo_succ (xs ys : List Int) (k : Nat) : meetTo xs ys (k + 1) = meetTo xs ys k ++ [min (xs.getD k 0) (ys.getD k 0)] := by simp [meetTo, List.range_succ]

theorem own_nextM {w w3 : World} {xs ys : List Int} {k : Nat} {m : Int} {v : Value} (hj : meetTo xs ys (k + 1) = meetTo xs ys k ++ [m])
    (h : w3.ownsRow (w.heap.size + 1 + 1 + 1 + 1) 3 1 v (meetTo xs ys k ++ [m]).length (icells (meetTo xs ys k ++ [m]))) :
    (w3.setCell ⟨w.heap.size + 1 + 1 + 1, 0, none⟩ v).ownsRow (w.heap.size + 1 + 1 + 1 + 1) 3 1 v (k + 1) (icells (meetTo xs ys (k + 1))) := by
  rw [← hj, meetTo_length] at h
  exact ownsRow_setCell_below h (by simp) v

set_option maxRecDepth 100000 in
set_option maxHeartbeats 4000000 in
theorem specMeet_yes (v u : Value) (xs ys : List Int) (w : World) (hx : IsInts w v xs) (hy : IsInts w u ys) (h1 : labelOk xs = true) (h2 : labelOk ys = true) :
    Calls Try.prog 30 #[.agg #[v], .agg #[u]] w fun e w' => ∃ r, e = .returned (.agg #[r]) ∧ w'.ownsRow w.heap.size 3 1 r 4 (icells (meetTo xs ys 4)) ∧ Below w.heap.size w w' := by
  have l1 := labelOk_four h1
  have l2 := labelOk_four h2
  have F0 := fourOf_four w v u
  have C1 := specLabelOk_any v xs (fourOf w v u) (hx.on F0.below) (by omega)
  have c2 := fun w' (hb : Below w.heap.size w w') => specLabelOk_any u ys w' (hy.on hb) (by omega)
  have C2 : Hid (∀ w', Below w.heap.size w w' → _) := c2
  have HF0 : Hid (Four w v u (.slice none 0 0) (fourOf w v u)) := F0
  simp only [h2] at C2
  rw [h1] at C1
  obtain ⟨a, cap, rfl, hcap, hx⟩ := hx
  obtain ⟨b, cap2, rfl, hcap2, hy⟩ := hy
  have HX : Hid (∀ i, i < xs.length → ∃ p, a = some p ∧ w.cell? (p.add i) = some (.int .i64 (xs.getD i 0))) := hx
  have HY : Hid (∀ i, i < ys.length → ∃ p, b = some p ∧ w.cell? (p.add i) = some (.int .i64 (ys.getD i 0))) := hy
  rw [l1] at C1 HX HF0 hcap ⊢
  rw [l2] at C1 C2 HY HF0 hcap2 ⊢
  clear hx hy h1 h2 l1 l2 F0 c2
  go_enter Try.func30, Try.ntmps30
  go_wp2_with fail
  refine C1.mono ?_
  rintro e w1 ⟨rfl, hb1⟩
  clear C1
  have F1 := HF0.out.on (hb1.mono HF0.out.size)
  have x2 := cell_of_one F1.b1
  have HF1 : Hid (Four w (.slice a 4 cap) (.slice b 4 cap2) (.slice none 0 0) w1) := F1
  clear F1 HF0 hb1
  go_wp2_with fail
  refine (C2.out w1 HF1.out.below).mono ?_
  rintro e w2 ⟨rfl, hb2⟩
  have F2 : Hid (Four w (.slice a 4 cap) (.slice b 4 cap2) (.slice none 0 0) w2) := HF1.out.on (hb2.mono HF1.out.size)
  clear C2 x2 HF1 hb2
  go_wp2
  go_loopw [6] (fun i wr => ∃ (k : Nat) (out : Value), k ≤ 4 ∧ i = .int .i64 k ∧ Hid (Four w (.slice a 4 cap) (.slice b 4 cap2) out wr) ∧ Hid (wr.ownsRow (w.heap.size + 1 + 1 + 1 + 1) 3 1 out k (icells (meetTo xs ys k)))) (fun i _ => 4 - (intOf i).toNat)
  case atStart => exact ⟨0, _, Nat.zero_le _, rfl, F2, World.ownsRow_nil _ _ _ _⟩
  case round =>
    obtain ⟨k, out, hk, rfl, hf, hown⟩ := hrel
    clear F2
    by_cases hlt : k < 4
    · obtain ⟨p, rfl, hc1⟩ := HX.out k hlt
      obtain ⟨q, rfl, hc2⟩ := HY.out k hlt
      have d1 : wr.cell? (p.add k) = some (.int .i64 (xs.getD k 0)) := (hf.out.below.cell (World.block_lt_of_cell? w _ hc1)).trans hc1
      have d2 : wr.cell? (q.add k) = some (.int .i64 (ys.getD k 0)) := (hf.out.below.cell (World.block_lt_of_cell? w _ hc2)).trans hc2
      have o0 := cell_of_one hf.out.b0
      have o1 := cell_of_one hf.out.b1
      have o3 := cell_of_one hf.out.b3
      have HJ : Hid (meetTo xs ys (k + 1) = meetTo xs ys k ++ [min (xs.getD k 0) (ys.getD k 0)]) := meetTo_succ xs ys k
      obtain ⟨x, hx⟩ : ∃ x, x = xs.getD k 0 := ⟨_, rfl⟩
      obtain ⟨y, hy⟩ : ∃ y, y = ys.getD k 0 := ⟨_, rfl⟩
      rw [← hx] at d1 HJ
      rw [← hy] at d2 HJ
      clear hc1 hc2 hx hy
      have hsz := hf.out.size
      have hown1 : Hid (wr.ownsRow (w.heap.size + 1 + 1 + 1 + 1) 3 1 out (meetTo xs ys k).length (icells (meetTo xs ys k))) := by rw [meetTo_length]; exact hown
      have hjl : (meetTo xs ys k).length + 1 ≤ 17592186044416 := by rw [meetTo_length]; omega
      have o3' : ∀ o : Obj, (wr.alloc o).cell? ⟨w.heap.size + 1 + 1 + 1, 0, none⟩ = some out := fun o => (World.cell?_alloc_lt _ _ _ (by simp; omega)).trans o3
      have i0 : (0 : Int) ≤ (k : Int) := by omega
      have i1 : (k : Int) < 4 := by omega
      clear hown
      obtain ⟨m, hm⟩ : ∃ m, m = min x y := ⟨_, rfl⟩
      have hif : (if y < x then y else x) = m := by rw [hm]; split <;> omega
      have hif2 : (if x < y then x else y) = m := by rw [hm]; split <;> omega
      rw [← hm] at HJ
      clear hm
      go_wp2
      go_region_law (refine step_appI rfl (.tmp 22) (.tmp 34) rfl wr _ (w.heap.size + 1 + 1 + 1 + 1) wr.heap.size out (meetTo xs ys k) [m] _ 1 rfl rfl (hown1.out.alloc _) (heap_alloc_new wr _) rfl rfl hjl (by simp; omega) (((Below.refl _ _).alloc hsz _).drew) ?_; intro v' w3 hown' hnx'; obtain ⟨a1, n1, c1, rfl⟩ := own_shape hown'.out; have g1 := cell_of_one (hf.out.on hnx').b3; have g2 := free_of_one (hf.out.on hnx').b3)
      all_goals clear o0 o1 o3 o3' d1 d2 g1 g2 hown1
      all_goals go_wp2
      all_goals exact ⟨⟨k + 1, _, by omega, by go_num, (hf.out.on hnx').put _, own_nextM HJ.out hown'.out⟩, by simp [intOf]; omega⟩
    · obtain rfl : k = 4 := by omega
      obtain ⟨a1, n1, c1, rfl⟩ := own_shape hown.out
      have o2 := cell_of_one hf.out.b2
      have o3 := cell_of_one hf.out.b3
      have f2 := free_of_one hf.out.b2
      go_wp2
      have q0 : (wr.setCell ⟨w.heap.size + 1 + 1, 0, none⟩ (.slice a1 n1 c1)).cell? ⟨w.heap.size + 1 + 1, 0, none⟩ = some (.slice a1 n1 c1) := World.cell?_setCell_same _ _ _ o2
      refine bodyPost_ret (v := .agg #[.slice a1 n1 c1]) (by simp [results, go_sem, q0]) rfl ⟨_, rfl, ?_, ?_⟩
      · exact own_less (ownsRow_setCell_below hown.out (by first | (simp; done) | (simp; omega)) _)
      · exact hf.out.below.setCell (by first | (simp; done) | (simp; omega)) _
end Go.Proofs.Ytpdhlnnepgkmkaa
