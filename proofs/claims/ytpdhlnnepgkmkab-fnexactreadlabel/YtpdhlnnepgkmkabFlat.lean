/-
  Flat: the model's and the program's.
-/
import Derived.Test.YtpdhlnnepgkmkabIRight
import Derived.Test.YtpdhlnnepgkmkabOwnR
namespace Go.Proofs.Ytpdhlnnepgkmkab
open Go.RowKit
set_option linter.unusedVariables false

/-- What Flat makes. -/
def flatOf (l : Int) : List Int := rightOf [l, l, l, l]
def flatTo (l : Int) : Nat → Array Value
  | 0 => #[.int .i64 0, .int .i64 0, .int .i64 0, .int .i64 0]
  | 1 => #[.int .i64 l, .int .i64 0, .int .i64 0, .int .i64 0]
  | 2 => #[.int .i64 l, .int .i64 l, .int .i64 0, .int .i64 0]
  | 3 => #[.int .i64 l, .int .i64 l, .int .i64 l, .int .i64 0]
  | _ => #[.int .i64 l, .int .i64 l, .int .i64 l, .int .i64 l]
def flatW (w : World) (l : Int) (k : Nat) : World := (w.alloc (.cells #[.slice none 0 0] 24 (0, 0))).alloc (.cells (flatTo l k) 38 (0, 0))
theorem flatW_zero (w : World) (l : Int) (k : Nat) : (flatW w l k).heap[w.heap.size]? = some (.cells #[.slice none 0 0] 24 (0, 0)) := by
  unfold flatW
  rw [heap_alloc_old _ _ (by simp)]
  exact heap_alloc_new w _
theorem flatW_below (w : World) (l : Int) (k : Nat) : Below w.heap.size w (flatW w l k) := ((Below.refl _ _).alloc (Nat.le_refl _) _).alloc (by simp) _

set_option maxHeartbeats 1000000 in
theorem implFlat_any (l : Int) (w : World) :
    Calls Try.prog 7 #[.int .i64 l] w fun e w' => ∃ r, e = .returned (.agg #[r]) ∧ w'.ownsRow w.heap.size 3 1 r (flatOf l).length (icells (flatOf l)) ∧ Below w.heap.size w w' := by
  have C := rightOrZero_any l l l l (flatW w l 4)
  rw [show rightOf [l, l, l, l] = flatOf l from rfl] at C
  generalize flatOf l = js at C ⊢
  have HZ : Hid ((flatW w l 4).heap[w.heap.size]? = some (.cells #[.slice none 0 0] 24 (0, 0))) := flatW_zero w l 4
  have HB : Hid (Below w.heap.size w (flatW w l 4)) := flatW_below w l 4
  go_enter Try.func7, Try.ntmps7
  go_wp2
  go_loopw [4, 5] (fun _ i wr => ∃ (k : Nat), k ≤ 4 ∧ i = .int .i64 k ∧ wr = flatW w l k) (fun _ i _ => 4 - (intOf i).toNat)
  case atStart => exact ⟨0, Nat.zero_le _, rfl, rfl⟩
  case round =>
    obtain ⟨k, hk, rfl, rfl⟩ := hrel
    have hcase : k = 0 ∨ k = 1 ∨ k = 2 ∨ k = 3 ∨ k = 4 := by omega
    rcases hcase with rfl | rfl | rfl | rfl | rfl
    · unfold flatW flatTo
      go_wp2
      exact ⟨⟨1, by omega, rfl, rfl⟩, by simp [intOf]⟩
    · unfold flatW flatTo
      go_wp2
      exact ⟨⟨2, by omega, rfl, rfl⟩, by simp [intOf]⟩
    · unfold flatW flatTo
      go_wp2
      exact ⟨⟨3, by omega, rfl, rfl⟩, by simp [intOf]⟩
    · unfold flatW flatTo
      go_wp2
      exact ⟨⟨4, by omega, rfl, rfl⟩, by simp [intOf]⟩
    · unfold flatW flatTo at C HZ HB ⊢
      go_wp2_with fail
      refine C.mono ?_
      rintro e w4 ⟨r, rfl, hown, hb4⟩
      have hz := keep2 HZ.out hb4
      have z1 := cell_of_one hz
      have z2 := free_of_one hz
      have HB4 : Hid (Below w.heap.size w w4) := HB.out.trans (hb4.mono HB.out.size)
      have HW : Hid (w4.ownsRow (w.heap.size + 1) 3 1 r js.length (icells js)) := own_from hown (lt_of_block HZ.out)
      obtain ⟨a1, n1, c1, rfl⟩ := own_shape hown
      clear hown hb4 hz HZ HB C
      go_wp2
      have q0 : (w4.setCell ⟨w.heap.size, 0, none⟩ (.slice a1 n1 c1)).cell? ⟨w.heap.size, 0, none⟩ = some (.slice a1 n1 c1) := World.cell?_setCell_same _ _ _ z1
      refine bodyPost_ret (v := .agg #[.slice a1 n1 c1]) (by simp [results, go_sem, q0]) rfl ⟨_, rfl, ?_, ?_⟩
      · exact own_from (ownsRow_setCell_below HW.out (by first | (simp; done) | (simp; omega)) _) (by omega)
      · exact HB4.out.setCell (by first | (simp; done) | (simp; omega)) _

/-- The answer's place, and the label that grows. -/
structure Grow (w : World) (out : Value) (wr : World) : Prop where
  b0 : wr.heap[w.heap.size]? = some (.cells #[.slice none 0 0] 24 (0, 0))
  b1 : wr.heap[w.heap.size + 1]? = some (.cells #[out] 24 (0, 0))
  below : Below w.heap.size w wr
theorem Grow.on {w wr w' : World} {out : Value} (h : Grow w out wr) (hb : Below (w.heap.size + 1 + 1) wr w') : Grow w out w' :=
  ⟨by rw [hb.block _ (by omega)]; exact h.b0, by rw [hb.block _ (by omega)]; exact h.b1, h.below.trans (hb.mono (by omega))⟩
theorem Grow.size {w wr : World} {out : Value} (h : Grow w out wr) : w.heap.size + 1 + 1 ≤ wr.heap.size := by have := lt_of_block h.b1; omega
theorem Grow.put {w wr : World} {out : Value} (h : Grow w out wr) (out' : Value) : Grow w out' (wr.setCell ⟨w.heap.size + 1, 0, none⟩ out') :=
  ⟨by rw [heap_setCell_other _ _ _ _ (by simp)]; exact h.b0, one_setCell h.b1, h.below.setCell (by simp) _⟩
def growW (w : World) : World := (w.alloc (.cells #[.slice none 0 0] 24 (0, 0))).alloc (.cells #[.slice none 0 0] 24 (0, 0))
theorem growW_grow (w : World) : Grow w (.slice none 0 0) (growW w) := by
  refine ⟨?_, ?_, ((Below.refl _ _).alloc (Nat.le_refl _) _).alloc (by simp) _⟩
  · unfold growW
    rw [heap_alloc_old _ _ (by simp)]
    exact heap_alloc_new w _
  · have := heap_alloc_new (w.alloc (.cells #[.slice none 0 0] 24 (0, 0))) (.cells #[.slice none 0 0] 24 (0, 0))
    simpa [growW] using this
theorem rep_succ (l : Int) (k : Nat) : List.replicate (k + 1) l = List.replicate k l ++ [l] := by rw [List.replicate_succ']
theorem own_nextF {w w3 : World} {l : Int} {k : Nat} {v : Value} (h : w3.ownsRow (w.heap.size + 1 + 1) 3 1 v (List.replicate k l ++ [l]).length (icells (List.replicate k l ++ [l]))) :
    (w3.setCell ⟨w.heap.size + 1, 0, none⟩ v).ownsRow (w.heap.size + 1 + 1) 3 1 v (k + 1) (icells (List.replicate (k + 1) l)) := by
  rw [← rep_succ, List.length_replicate] at h
  exact ownsRow_setCell_below h (by simp) v

set_option maxRecDepth 100000 in
set_option maxHeartbeats 1000000 in
theorem specFlat_yes (l : Int) (w : World) (h0 : 0 ≤ l) (h3 : l ≤ 3) :
    Calls Try.prog 6 #[.int .i64 l] w fun e w' => ∃ r, e = .returned (.agg #[r]) ∧ w'.ownsRow w.heap.size 3 1 r 4 (icells [l, l, l, l]) ∧ Below w.heap.size w w' := by
  have C := l1In_any l 0 3 (growW w)
  rw [show (decide ((0 : Int) ≤ l) && decide (l ≤ 3)) = true by simp [h0, h3]] at C
  have HG0 : Hid (Grow w (.slice none 0 0) (growW w)) := growW_grow w
  clear h0 h3
  go_enter Try.func6, Try.ntmps6
  go_wp2_with fail
  refine C.mono ?_
  rintro e w1 ⟨rfl, rfl⟩
  clear C
  go_wp2
  go_loopw [4] (fun i wr => ∃ (k : Nat) (out : Value), k ≤ 4 ∧ i = .int .i64 k ∧ Hid (Grow w out wr) ∧ Hid (wr.ownsRow (w.heap.size + 1 + 1) 3 1 out k (icells (List.replicate k l)))) (fun i _ => 4 - (intOf i).toNat)
  case atStart => exact ⟨0, _, Nat.zero_le _, rfl, HG0, World.ownsRow_nil _ _ _ _⟩
  case round =>
    obtain ⟨k, out, hk, rfl, hg, hown⟩ := hrel
    clear HG0
    by_cases hlt : k < 4
    · have o1 := cell_of_one hg.out.b1
      have t1 : w.heap.size + 1 < wr.heap.size := lt_of_block hg.out.b1
      have hsz := hg.out.size
      have H1 : Hid ((wr.alloc (.cells #[.int .i64 l] 3 (0, 0))).ownsRow (w.heap.size + 1 + 1) 3 1 out (List.replicate k l).length (icells (List.replicate k l))) := by rw [List.length_replicate]; exact hown.out.alloc _
      have H2 : Hid (∀ (j : Nat) x, (icells [l])[j]? = some x → (wr.alloc (.cells #[.int .i64 l] 3 (0, 0))).cell? ⟨wr.heap.size, j, none⟩ = some x) := fun j x hj => by
        have := heap_alloc_new wr (.cells #[.int .i64 l] 3 (0, 0))
        simp only [World.cell?, this]
        simpa [icells] using hj
      have H3 : Hid (Below (w.heap.size + 1 + 1) wr (wr.alloc (.cells #[.int .i64 l] 3 (0, 0)))) := (Below.refl _ _).alloc hsz _
      clear hown
      go_wp2_with (refine wpList_appI rfl (.tmp 15) (.tmp 17) rfl wr _ (w.heap.size + 1 + 1) wr.heap.size out (List.replicate k l) [l] 1 1 rfl rfl H1.out H2.out rfl (by simp; omega) (by simp; omega) H3.out ?_; intro v' w3 hown' hnx'; obtain ⟨a1, n1, c1, rfl⟩ := own_shape hown'.out; have g1 := cell_of_one (hg.out.on hnx'.out).b1; have g2 := free_of_one (hg.out.on hnx'.out).b1)
      exact ⟨⟨k + 1, _, by omega, by go_num, (hg.out.on hnx'.out).put _, own_nextF hown'.out⟩, by simp [intOf]; omega⟩
    · obtain rfl : k = 4 := by omega
      obtain ⟨a1, n1, c1, rfl⟩ := own_shape hown.out
      have o0 := cell_of_one hg.out.b0
      have o1 := cell_of_one hg.out.b1
      have f0 := free_of_one hg.out.b0
      go_wp2
      have q0 : (wr.setCell ⟨w.heap.size, 0, none⟩ (.slice a1 n1 c1)).cell? ⟨w.heap.size, 0, none⟩ = some (.slice a1 n1 c1) := World.cell?_setCell_same _ _ _ o0
      refine bodyPost_ret (v := .agg #[.slice a1 n1 c1]) (by simp [results, go_sem, q0]) rfl ⟨_, rfl, ?_, ?_⟩
      · exact own_from (ownsRow_setCell_below hown.out (by first | (simp; done) | (simp; omega)) _) (by omega)
      · exact hg.out.below.setCell (by first | (simp; done) | (simp; omega)) _

set_option maxHeartbeats 1000000 in
theorem specFlat_no (l : Int) (w : World) (h : ¬ (0 ≤ l ∧ l ≤ 3)) :
    Calls Try.prog 6 #[.int .i64 l] w fun e w' => e = .returned (.agg #[.slice none 0 0]) ∧ Below w.heap.size w w' := by
  have C := l1In_any l 0 3 (growW w)
  rw [show (decide ((0 : Int) ≤ l) && decide (l ≤ 3)) = false by rw [Bool.eq_false_iff]; intro e; simp at e; exact h e] at C
  have HG0 : Hid (Grow w (.slice none 0 0) (growW w)) := growW_grow w
  clear h
  unfold growW at C HG0
  go_enter Try.func6, Try.ntmps6
  go_wp2_with fail
  refine C.mono ?_
  rintro e w1 ⟨rfl, rfl⟩
  clear C
  go_wp2
  refine bodyPost_ret (v := .agg #[.slice none 0 0]) ?_ rfl ⟨rfl, HG0.out.below⟩
  have hres : Try.f6.results = #[.cell 2 24] := by kernel_rfl
  simp only [results, hres]
  go_simp

theorem specFlat_any (l : Int) (w : World) :
    Calls Try.prog 6 #[.int .i64 l] w fun e w' => ∃ r, e = .returned (.agg #[r]) ∧ w'.ownsRow w.heap.size 3 1 r (flatOf l).length (icells (flatOf l)) ∧ Below w.heap.size w w' := by
  by_cases h : 0 ≤ l ∧ l ≤ 3
  · have e : flatOf l = [l, l, l, l] := rightOf_yes (labelOk_all rfl (by simp [lvlOk]; omega))
    rw [e]
    exact specFlat_yes l w h.1 h.2
  · have e : flatOf l = [] := rightOf_no (ok_no (x := l) 0 (by simp) rfl (by omega))
    rw [e]
    refine (specFlat_no l w h).mono ?_
    rintro e w' ⟨rfl, hb⟩
    exact ⟨_, rfl, World.ownsRow_nil _ _ _ _, hb⟩
theorem flatOf_length (l : Int) : (flatOf l).length ≤ 4 := by
  unfold flatOf rightOf; split <;> simp
end Go.Proofs.Ytpdhlnnepgkmkab
