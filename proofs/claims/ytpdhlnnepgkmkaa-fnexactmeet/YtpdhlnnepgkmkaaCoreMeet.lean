/-
  The law of Meet: what the program makes is what the model makes, of every two labels; the arguments are left alone, and the answer shares no memory with them nor with another answer.
-/
import Derived.Test.YtpdhlnnepgkmkaaMade
import Derived.Test.YtpdhlnnepgkmkaaJoinNo
import Derived.Test.YtpdhlnnepgkmkaaIJoin
namespace Go.Proofs.Ytpdhlnnepgkmkaa
open Go.ChangeShapes Go.WideShapes Go.ChangeAt Go.RowKit
set_option linter.unusedVariables false

theorem meetOf_length (xs ys : List Int) : (meetOf xs ys).length ≤ 4 := by
  unfold meetOf
  split
  · rw [meetTo_length]; exact Nat.le_refl _
  · simp
theorem specMeet_any (v u : Value) (xs ys : List Int) (w : World) (hx : IsInts w v xs) (hy : IsInts w u ys) (hn : xs.length ≤ 1048576) (hm : ys.length ≤ 1048576) :
    Calls Try.prog 30 #[.agg #[v], .agg #[u]] w fun e w' => ∃ r, e = .returned (.agg #[r]) ∧ w'.ownsRow w.heap.size 3 1 r (meetOf xs ys).length (icells (meetOf xs ys)) ∧ Below w.heap.size w w' := by
  by_cases h : (labelOk xs && labelOk ys) = true
  · have h1 : labelOk xs = true := by simp at h; exact h.1
    have h2 : labelOk ys = true := by simp at h; exact h.2
    have e : meetOf xs ys = meetTo xs ys 4 := by unfold meetOf; rw [if_pos h]
    rw [e, meetTo_length]
    exact specMeet_yes v u xs ys w hx hy h1 h2
  · have e : meetOf xs ys = [] := by unfold meetOf; rw [if_neg h]
    rw [e]
    refine (specMeet_no v u xs ys w hx hy hn hm (by simpa using h)).mono ?_
    rintro e w' ⟨rfl, hb⟩
    exact ⟨_, rfl, World.ownsRow_nil _ _ _ _, hb⟩

set_option maxRecDepth 100000 in
set_option maxHeartbeats 8000000 in
theorem lawMeet_core (v u : Value) (xs ys : List Int) (l l2 : Int) (w : World) (hl : ¬ l < 0) (hl2 : ¬ l2 < 0) (hx : IsInts w v xs) (hy : IsInts w u ys) (hn : xs.length ≤ 1048576) (hm : ys.length ≤ 1048576)
    (c1 : ∀ w', Calls Try.prog 21 #[.agg #[v], .int .i64 1048576] w' fun e w2 => e = .returned (.int .i64 l) ∧ Below w'.heap.size w' w2)
    (c2 : ∀ w', Calls Try.prog 21 #[.agg #[u], .int .i64 l] w' fun e w2 => e = .returned (.int .i64 l2) ∧ Below w'.heap.size w' w2) :
    Calls Try.prog 8 #[.agg #[v], .agg #[u]] w fun e w' => e = .returned (.bool true) ∧ Below w.heap.size w w' := by
  have C1 := c1 (twoW w v u)
  have C2 : Hid (∀ w', _) := c2
  have ct := fun w' (hb : Below w.heap.size w w') => toLabel_any v xs w' (hx.on hb) hn
  have cu := fun w' (hb : Below w.heap.size w w') => toLabel_any u ys w' (hy.on hb) hm
  have cs := fun v u w' (hi : IsInts w' v xs) (hj : IsInts w' u ys) => specMeet_any v u xs ys w' hi hj hn hm
  have ci := fun v u w' (hi : IsInts w' v xs) (hj : IsInts w' u ys) => implMeet_any v u xs ys w' hi hj
  have hj4 := meetOf_length xs ys
  generalize meetOf xs ys = js at cs ci hj4
  have ce := fun (zs : List Int) (hz : zs.length ≤ 1048576) v u w' (hi : IsInts w' v zs) (hj : IsInts w' u zs) => eqLabel_any v u zs zs w' hi hj hz
  have ch := fun v w' (hi : IsInts w' v (upFrom 1 js.length)) => heldLabel_up v js.length 1 w' hi (by omega) (by omega) (by omega)
  simp only [sameInts_refl] at ce
  have CT : Hid (∀ w', Below w.heap.size w w' → _) := ct
  have CU : Hid (∀ w', Below w.heap.size w w' → _) := cu
  have CS : Hid (∀ v u w', IsInts w' v xs → IsInts w' u ys → _) := cs
  have CI : Hid (∀ v u w', IsInts w' v xs → IsInts w' u ys → _) := ci
  have CE : Hid (∀ (zs : List Int), zs.length ≤ 1048576 → _) := ce
  have CH : Hid (∀ v w', IsInts w' v (upFrom 1 js.length) → _) := ch
  have HT : Hid (Two w v u (twoW w v u)) := twoW_two _ _ _
  have hk1 : ¬ ((1 : Int) + (xs.length : Int) + (ys.length : Int) < 0) := by omega
  have hk2 : ¬ ((1 : Int) + (js.length : Int) < 0) := by omega
  have hk3 : ((1 : Int) + (js.length : Int) != (1 : Int) + (js.length : Int)) = false := by simp
  have Hn : Hid (xs.length ≤ 1048576) := hn
  have Hm : Hid (ys.length ≤ 1048576) := hm
  have Hj : Hid (js.length ≤ 4) := hj4
  clear c1 c2 ct cu cs ci ce ch hx hy hj4 hn hm
  go_enter Try.func8, Try.ntmps8
  go_wp2_with fail
  refine C1.mono ?_
  rintro e w1 ⟨rfl, hb1⟩
  clear C1
  have HT1 : Hid (Two w v u w1) := HT.out.on hb1
  have k1 := HT1.out.c1
  clear hb1 HT
  go_wp2_with fail
  refine (C2.out _).mono ?_
  rintro e w2 ⟨rfl, hb2⟩
  have HT2 : Hid (Two w v u w2) := HT1.out.on hb2
  have k2 := HT2.out.c0
  have j2 := HT2.out.c1
  clear hb2 HT1 C2 k1
  have t2 : w.heap.size < w2.heap.size := lt_of_block HT2.out.b0
  have s2 : w.heap.size + 1 < w2.heap.size := lt_of_block HT2.out.b1
  go_upto_region 8 with fail
  go_cut [6] (fun s6 wx => ∃ B6, s6 = .pointer (some ⟨B6, 0, none⟩) ∧ Hid (Made w v u js B6 wx))
  case first =>
    go_region_with (first
      | (go_at_call_of 22 v; refine (CT.out _ ?_).mono ?_; (first | exact HT2.out.drew.below | exact (HT2.out.drew.alloc Z26).below); rintro e w93 ⟨g1, rfl, hg1, hr1, hb3⟩; have HW93 : Hid (Below w2.drew.heap.size w2.drew w93) := (by first | exact hb3 | exact (below_alloc w2.drew Z26).trans (hb3.mono (by simp))); (try (have BX93 : Hid (w93.heap[w2.heap.size]? = some Z26) := keep2 (heap_alloc_new w2.drew Z26) hb3)); have HT93 : Hid (Two w v u w93) := HT2.out.drew.on HW93.out; have HI1 : Hid (IsInts w93 (.slice (some ⟨g1, 0, none⟩) xs.length xs.length) xs) := hr1.ints2; have j93 := HT93.out.c1; have t93 : w.heap.size + 1 < w93.heap.size := lt_of_block HT93.out.b1; clear hg1 hr1 hb3)
      | (go_at_call_of 22 u; refine (CU.out _ ?_).mono ?_; (first | exact HT93.out.below | exact (HT93.out.alloc Z26).below); rintro e w94 ⟨g2, rfl, hg2, hr2, hb4⟩; have HH : Below w93.heap.size w93 w94 := (by first | exact hb4 | exact (below_alloc w93 Z26).trans (hb4.mono (by simp))); (first | (have BX94 : Hid (w94.heap[w2.heap.size]? = some Z26) := keep2 BX93.out HH) | (have BX94 : Hid (w94.heap[w93.heap.size]? = some Z26) := keep2 (heap_alloc_new w93 Z26) hb4) | skip); have HT94 : Hid (Two w v u w94) := HT93.out.on HH; have HW94 : Hid (Below w2.drew.heap.size w2.drew w94) := HW93.out.trans (HH.mono HW93.out.size); have HI2 : Hid (IsInts w94 (.slice (some ⟨g2, 0, none⟩) ys.length ys.length) ys) := hr2.ints2; have HI3 : Hid (IsInts w94 (.slice (some ⟨g1, 0, none⟩) xs.length xs.length) xs) := HI1.out.on HH; clear hg2 hr2 hb4 HH)
      | (go_at_call 30; refine (CS.out _ _ _ ?_ ?_).mono ?_; (first | exact HI3.out | exact HI3.out.on (below_alloc w94 Z26)); (first | exact HI2.out | exact HI2.out.on (below_alloc w94 Z26)); rintro e w95 ⟨r, rfl, hown, hb5⟩; obtain ⟨a1, n1, q1, rfl⟩ := own_shape hown; have HH : Below w94.heap.size w94 w95 := (by first | exact hb5 | exact (below_alloc w94 Z26).trans (hb5.mono (by simp))); have HW95 : Hid (Below w2.drew.heap.size w2.drew w95) := HW94.out.trans (HH.mono HW94.out.size); (first | (have BX5 := keep2 BX94.out hb5; have cB := cell_of_one BX5; have fB := free_of_one BX5; have MD := made_put (HT94.out.on hb5) BX5 hown (lt_of_block BX94.out) (by first | exact lt_of_block HT2.out.b1 | exact lt_of_block HT93.out.b1); clear BX5) | (have MD := made_new (HT94.out.on hb5) hown (lt_of_block HT94.out.b1)) | (have BX5 := keep2 (heap_alloc_new w94 Z26) hb5; have cB := cell_of_one BX5; have fB := free_of_one BX5; have MD := made_put (HT94.out.on HH) BX5 hown (by simp) (lt_of_block HT94.out.b1); clear BX5)); have HMD : Hid (Made w v u js _ _) := MD; clear hb5 hown MD HH))
    all_goals (go_wp2_with fail; go_meet; exact ⟨_, rfl, HMD⟩)
  case rest =>
  obtain ⟨B6, rfl, HMD⟩ := hcut
  obtain ⟨HT3, r6, H6, HO3, hq1, hq2, hq3⟩ := HMD.out
  have HT3 : Hid (Two w v u wc) := HT3
  have HO3 : Hid (OwnR B6 r6 js (w.heap.size + 1 + 1) H6 wc) := HO3
  have HQ6 : Hid (w.heap.size + 1 + 1 ≤ B6 ∧ B6 < H6) := ⟨hq3, hq1⟩
  have HQ5 : Hid (H6 ≤ wc.heap.size) := hq2
  clear HMD hq1 hq2 hq3
  clear HT2 k2 j2 CS t2 s2
  have k3 := HT3.out.c0
  go_wp2_with fail
  refine (CT.out _ HT3.out.below).mono ?_
  rintro e w4 ⟨g1, rfl, hg1, hr1, hb4⟩
  have HT4 : Hid (Two w v u (w4.alloc (.cells #[.slice (some ⟨g1, 0, none⟩) xs.length xs.length] 26 (0, 0)))) := (HT3.out.on hb4).alloc _
  have HA4 : Hid (OwnR w4.heap.size (.slice (some ⟨g1, 0, none⟩) xs.length xs.length) xs H6 w4.heap.size (w4.alloc (.cells #[.slice (some ⟨g1, 0, none⟩) xs.length xs.length] 26 (0, 0)))) := ownR_new (hr1.own2 (lo := H6) (Nat.le_trans HQ5.out hg1) Hn.out) (Nat.le_refl _)
  have HO4 : Hid (OwnR B6 r6 js (w.heap.size + 1 + 1) H6 (w4.alloc (.cells #[.slice (some ⟨g1, 0, none⟩) xs.length xs.length] 26 (0, 0)))) := (HO3.out.on hb4).alloc _
  have HQ7 : Hid (H6 ≤ w4.heap.size) := Nat.le_trans HQ5.out hb4.size
  have k4 : w4.cell? ⟨w.heap.size + 1, 0, none⟩ = some u := (HT3.out.on hb4).c1
  have t4 : w.heap.size + 1 < w4.heap.size := World.block_lt_of_cell? w4 _ k4
  clear hb4 hr1 hg1 HT3 HO3 k3 HQ5
  go_wp2_with fail
  refine (CU.out _ HT4.out.below).mono ?_
  rintro e w5 ⟨g2, rfl, hg2, hr2, hb5⟩
  have HT5 : Hid (Two w v u (w5.alloc (.cells #[.slice (some ⟨g2, 0, none⟩) ys.length ys.length] 26 (0, 0)))) := (HT4.out.on hb5).alloc _
  have HA5 : Hid (OwnR w4.heap.size (.slice (some ⟨g1, 0, none⟩) xs.length xs.length) xs H6 w4.heap.size (w5.alloc (.cells #[.slice (some ⟨g2, 0, none⟩) ys.length ys.length] 26 (0, 0)))) := (HA4.out.on hb5).alloc _
  have HB5 : Hid (OwnR w5.heap.size (.slice (some ⟨g2, 0, none⟩) ys.length ys.length) ys (w4.heap.size + 1) w5.heap.size (w5.alloc (.cells #[.slice (some ⟨g2, 0, none⟩) ys.length ys.length] 26 (0, 0)))) := ownR_new (hr2.own2 (lo := w4.heap.size + 1) (by have := HA4.out.lt; omega) Hm.out) (Nat.le_refl _)
  have HO5 : Hid (OwnR B6 r6 js (w.heap.size + 1 + 1) H6 (w5.alloc (.cells #[.slice (some ⟨g2, 0, none⟩) ys.length ys.length] 26 (0, 0)))) := (HO4.out.on hb5).alloc _
  have k5 : w5.cell? ⟨w4.heap.size, 0, none⟩ = some (.slice (some ⟨g1, 0, none⟩) xs.length xs.length) := (HA4.out.on hb5).cell
  have t5 : w4.heap.size < w5.heap.size := World.block_lt_of_cell? w5 _ k5
  have HQ8 : Hid (w4.heap.size < w5.heap.size) := t5
  clear hb5 hr2 hg2 HT4 HA4 HO4 k4
  go_wp2_with fail
  refine (CI.out _ _ _ HA5.out.ints HB5.out.ints).mono ?_
  rintro e w6 ⟨r9, rfl, hown, hb6⟩
  have HT6 : Hid (Two w v u (w6.alloc (.cells #[r9] 26 (0, 0)))) := (HT5.out.on hb6).alloc _
  have HA6 : Hid (OwnR w4.heap.size (.slice (some ⟨g1, 0, none⟩) xs.length xs.length) xs H6 w4.heap.size (w6.alloc (.cells #[r9] 26 (0, 0)))) := (HA5.out.on hb6).alloc _
  have HB6 : Hid (OwnR w5.heap.size (.slice (some ⟨g2, 0, none⟩) ys.length ys.length) ys (w4.heap.size + 1) w5.heap.size (w6.alloc (.cells #[r9] 26 (0, 0)))) := (HB5.out.on hb6).alloc _
  have HO6 : Hid (OwnR B6 r6 js (w.heap.size + 1 + 1) H6 (w6.alloc (.cells #[r9] 26 (0, 0)))) := (HO5.out.on hb6).alloc _
  have HG6 : Hid (OwnR w6.heap.size r9 js (w5.heap.size + 1) w6.heap.size (w6.alloc (.cells #[r9] 26 (0, 0)))) := ownR_new hown HB5.out.lt
  have HQ9 : Hid (w5.heap.size < w6.heap.size) := (HB5.out.on hb6).lt
  have k6 : w6.cell? ⟨B6, 0, none⟩ = some r6 := (HO5.out.on hb6).cell
  have t6 : B6 < w6.heap.size := World.block_lt_of_cell? w6 _ k6
  obtain ⟨a9, n9, q9, rfl⟩ := own_shape hown
  clear hb6 hown HT5 HA5 HB5 HO5 k5
  go_wp2_with fail
  refine (CE.out js (by have := Hj.out; omega) _ _ _ HG6.out.ints HO6.out.ints).mono ?_
  rintro e w7 ⟨rfl, hb7⟩
  have HT7 : Hid (Two w v u w7) := HT6.out.on hb7
  have HA7 : Hid (OwnR w4.heap.size (.slice (some ⟨g1, 0, none⟩) xs.length xs.length) xs H6 w4.heap.size w7) := HA6.out.on hb7
  have HB7 : Hid (OwnR w5.heap.size (.slice (some ⟨g2, 0, none⟩) ys.length ys.length) ys (w4.heap.size + 1) w5.heap.size w7) := HB6.out.on hb7
  have HO7 : Hid (OwnR B6 r6 js (w.heap.size + 1 + 1) H6 w7) := HO6.out.on hb7
  have HG7 : Hid (OwnR w6.heap.size (.slice a9 n9 q9) js (w5.heap.size + 1) w6.heap.size w7) := HG6.out.on hb7
  have k7 := HT7.out.c0
  have j7 := HA7.out.cell
  clear hb7 HT6 HA6 HB6 HO6 HG6 k6 t4 t5 t6
  go_upto_region 14 with fail
  go_cut [44] (fun s44 wx => s44 = .bool false ∧ Hid (Two w v u wx) ∧ Hid (OwnR w4.heap.size (.slice (some ⟨g1, 0, none⟩) xs.length xs.length) xs H6 w4.heap.size wx) ∧ Hid (OwnR w5.heap.size (.slice (some ⟨g2, 0, none⟩) ys.length ys.length) ys (w4.heap.size + 1) w5.heap.size wx) ∧ Hid (OwnR B6 r6 js (w.heap.size + 1 + 1) H6 wx) ∧ Hid (OwnR w6.heap.size (.slice a9 n9 q9) js (w5.heap.size + 1) w6.heap.size wx))
  case first =>
    go_region_with (first
      | (go_at_call 22; refine (CT.out _ HT7.out.drew.below).mono ?_; rintro e w8 ⟨g3, rfl, hg3, hr3, hb8⟩; have HI8 : Hid (IsInts w8 (.slice (some ⟨g3, 0, none⟩) xs.length xs.length) xs) := hr3.ints2; have HA8 : Hid (OwnR w4.heap.size (.slice (some ⟨g1, 0, none⟩) xs.length xs.length) xs H6 w4.heap.size w8) := HA7.out.drew.on hb8; have H8 : Hid (Below w7.drew.heap.size w7.drew w8) := hb8; have j8 := HA8.out.cell; clear hg3 hr3 hb8)
      | (go_at_call 24; refine (CE.out xs Hn.out _ _ _ HA8.out.ints HI8.out).mono ?_; rintro e w9 ⟨rfl, hb9⟩; have H9 : Hid (Below w7.drew.heap.size w7.drew w9) := H8.out.trans (hb9.mono H8.out.size); clear hb9))
    all_goals (go_wp2_with fail; go_meet; exact ⟨rfl, HT7.out.drew.on H9.out, HA7.out.drew.on H9.out, HB7.out.drew.on H9.out, HO7.out.drew.on H9.out, HG7.out.drew.on H9.out⟩)
  case rest =>
  obtain ⟨rfl, HT8, HA8, HB8, HO8, HG8⟩ := hcut
  clear HT7 HA7 HB7 HO7 HG7 k7 j7
  have k8 := HT8.out.c1
  have j8 := HB8.out.cell
  go_upto_region 16 with fail
  go_cut [49] (fun s49 wx => s49 = .bool false ∧ Hid (Two w v u wx) ∧ Hid (OwnR w4.heap.size (.slice (some ⟨g1, 0, none⟩) xs.length xs.length) xs H6 w4.heap.size wx) ∧ Hid (OwnR w5.heap.size (.slice (some ⟨g2, 0, none⟩) ys.length ys.length) ys (w4.heap.size + 1) w5.heap.size wx) ∧ Hid (OwnR B6 r6 js (w.heap.size + 1 + 1) H6 wx) ∧ Hid (OwnR w6.heap.size (.slice a9 n9 q9) js (w5.heap.size + 1) w6.heap.size wx))
  case first =>
    go_region_with (first
      | (go_at_call 22; refine (CU.out _ HT8.out.drew.below).mono ?_; rintro e w9 ⟨g3, rfl, hg3, hr3, hb9⟩; have HI9 : Hid (IsInts w9 (.slice (some ⟨g3, 0, none⟩) ys.length ys.length) ys) := hr3.ints2; have HB9 : Hid (OwnR w5.heap.size (.slice (some ⟨g2, 0, none⟩) ys.length ys.length) ys (w4.heap.size + 1) w5.heap.size w9) := HB8.out.drew.on hb9; have H9 : Hid (Below wc.drew.heap.size wc.drew w9) := hb9; have j9 := HB9.out.cell; clear hg3 hr3 hb9)
      | (go_at_call 24; refine (CE.out ys Hm.out _ _ _ HB9.out.ints HI9.out).mono ?_; rintro e w10 ⟨rfl, hb10⟩; have H10 : Hid (Below wc.drew.heap.size wc.drew w10) := H9.out.trans (hb10.mono H9.out.size); clear hb10))
    all_goals (go_wp2_with fail; go_meet; exact ⟨rfl, HT8.out.drew.on H10.out, HA8.out.drew.on H10.out, HB8.out.drew.on H10.out, HO8.out.drew.on H10.out, HG8.out.drew.on H10.out⟩)
  case rest =>
  obtain ⟨rfl, HT9, HA9, HB9, HO9, HG9⟩ := hcut
  clear HT8 HA8 HB8 HO8 HG8 k8 j8
  have k9 := HA9.out.cell
  go_wp2_with fail
  refine (mark_boxed HA9.out (Nat.le_refl _) 1 Hn.out (by omega) (by omega)).mono ?_
  rintro e w10 ⟨row, rfl, hgr, hrow, hA⟩
  have HT10 : Hid (Two w v u w10) := HT9.out.by' hgr fun k e => by have := hrow k e; obtain ⟨hq6, hq6'⟩ := HQ6.out; omega
  have HB10 : Hid (OwnR w5.heap.size (.slice (some ⟨g2, 0, none⟩) ys.length ys.length) ys (w4.heap.size + 1) w5.heap.size w10) := HB9.out.by' hgr fun k e => by have := hrow k e; have := HQ8.out; omega
  have HO10 : Hid (OwnR B6 r6 js (w.heap.size + 1 + 1) H6 w10) := HO9.out.by' hgr fun k e => by have := hrow k e; obtain ⟨hq6, hq6'⟩ := HQ6.out; omega
  have HG10 : Hid (OwnR w6.heap.size (.slice a9 n9 q9) js (w5.heap.size + 1) w6.heap.size w10) := HG9.out.by' hgr fun k e => by have := hrow k e; have := HQ8.out; have := HQ9.out; omega
  have k10 := HB10.out.cell
  clear hgr hrow hA HT9 HA9 HB9 HO9 HG9 k9
  go_wp2_with fail
  refine (mark_boxed HB10.out (Nat.le_refl _) (1 + (xs.length : Int)) Hm.out (by omega) (by have := Hn.out; omega)).mono ?_
  rintro e w11 ⟨row, rfl, hgr, hrow, hA⟩
  have HT11 : Hid (Two w v u w11) := HT10.out.by' hgr fun k e => by have := hrow k e; obtain ⟨hq6, hq6'⟩ := HQ6.out; have := HQ7.out; omega
  have HO11 : Hid (OwnR B6 r6 js (w.heap.size + 1 + 1) H6 w11) := HO10.out.by' hgr fun k e => by have := hrow k e; obtain ⟨hq6, hq6'⟩ := HQ6.out; have := HQ7.out; omega
  have HG11 : Hid (OwnR w6.heap.size (.slice a9 n9 q9) js (w5.heap.size + 1) w6.heap.size w11) := HG10.out.by' hgr fun k e => by have := hrow k e; have := HQ9.out; omega
  have k11 := HG11.out.cell
  have j11 := HO11.out.cell
  clear hgr hrow hA HT10 HB10 HO10 HG10 k10
  go_wp2_with fail
  refine (CE.out js (by have := Hj.out; omega) _ _ _ HG11.out.ints HO11.out.ints).mono ?_
  rintro e w12 ⟨rfl, hb12⟩
  have HT12 : Hid (Two w v u w12) := HT11.out.on hb12
  have HO12 : Hid (OwnR B6 r6 js (w.heap.size + 1 + 1) H6 w12) := HO11.out.on hb12
  have HG12 : Hid (OwnR w6.heap.size (.slice a9 n9 q9) js (w5.heap.size + 1) w6.heap.size w12) := HG11.out.on hb12
  have k12 := HG12.out.cell
  clear hb12 HT11 HO11 HG11 k11 j11
  go_wp2_with fail
  refine (mark_boxed HG12.out (Nat.le_refl _) 1 (by have := Hj.out; omega) (by omega) (by omega)).mono ?_
  rintro e w13 ⟨row, rfl, hgr, hrow, hA⟩
  have HT13 : Hid (Two w v u w13) := HT12.out.by' hgr fun k e => by have := hrow k e; obtain ⟨hq6, hq6'⟩ := HQ6.out; have := HQ7.out; have := HQ8.out; omega
  have HO13 : Hid (OwnR B6 r6 js (w.heap.size + 1 + 1) H6 w13) := HO12.out.by' hgr fun k e => by have := hrow k e; obtain ⟨hq6, hq6'⟩ := HQ6.out; have := HQ7.out; have := HQ8.out; omega
  have HG13 : Hid (OwnR w6.heap.size (.slice a9 n9 q9) (upFrom 1 js.length) (w5.heap.size + 1) w6.heap.size w13) := hA
  have k13 := HG13.out.cell
  clear hgr hrow hA HT12 HO12 HG12 k12
  go_wp2_with fail
  refine (CH.out _ _ HG13.out.ints).mono ?_
  rintro e w14 ⟨rfl, hb14⟩
  have HT14 : Hid (Two w v u w14) := HT13.out.on hb14
  have HO14 : Hid (OwnR B6 r6 js (w.heap.size + 1 + 1) H6 w14) := HO13.out.on hb14
  have HG14 : Hid (OwnR w6.heap.size (.slice a9 n9 q9) (upFrom 1 js.length) (w5.heap.size + 1) w6.heap.size w14) := HG13.out.on hb14
  have k14 := HT14.out.c0
  have j14 := HT14.out.c1
  clear hb14 HT13 HO13 HG13 k13
  have t14 : w.heap.size < w14.heap.size := lt_of_block HT14.out.b0
  have s14 : w.heap.size + 1 < w14.heap.size := lt_of_block HT14.out.b1
  go_upto_region 31 with fail
  have HS14 : Hid (H6 ≤ w14.heap.size ∧ w6.heap.size < w14.heap.size ∧ B6 < w14.heap.size) := ⟨by have := HQ7.out; have := HQ8.out; have := HQ9.out; have := HG14.out.lt; omega, HG14.out.lt, HO14.out.lt⟩
  go_cut [13] (fun s13 wx => ∃ B13, s13 = .pointer (some ⟨B13, 0, none⟩) ∧ Hid (Made w v u js B13 wx) ∧ Hid (OwnR B6 r6 js (w.heap.size + 1 + 1) H6 wx) ∧ Hid (OwnR w6.heap.size (.slice a9 n9 q9) (upFrom 1 js.length) (w5.heap.size + 1) w6.heap.size wx))
  case first =>
    go_region_with (first
      | (go_at_call_of 22 v; refine (CT.out _ ?_).mono ?_; (first | exact HT14.out.drew.below | exact (HT14.out.drew.alloc Z26).below); rintro e w93 ⟨g1, rfl, hg1, hr1, hb3⟩; have HW93 : Hid (Below w14.drew.heap.size w14.drew w93) := (by first | exact hb3 | exact (below_alloc w14.drew Z26).trans (hb3.mono (by simp))); (try (have BX93 : Hid (w93.heap[w14.heap.size]? = some Z26) := keep2 (heap_alloc_new w14.drew Z26) hb3)); have HT93 : Hid (Two w v u w93) := HT14.out.drew.on HW93.out; have HI1 : Hid (IsInts w93 (.slice (some ⟨g1, 0, none⟩) xs.length xs.length) xs) := hr1.ints2; have j93 := HT93.out.c1; have t93 : w.heap.size + 1 < w93.heap.size := lt_of_block HT93.out.b1; clear hg1 hr1 hb3)
      | (go_at_call_of 22 u; refine (CU.out _ ?_).mono ?_; (first | exact HT93.out.below | exact (HT93.out.alloc Z26).below); rintro e w94 ⟨g2, rfl, hg2, hr2, hb4⟩; have HH : Below w93.heap.size w93 w94 := (by first | exact hb4 | exact (below_alloc w93 Z26).trans (hb4.mono (by simp))); (first | (have BX94 : Hid (w94.heap[w14.heap.size]? = some Z26) := keep2 BX93.out HH) | (have BX94 : Hid (w94.heap[w93.heap.size]? = some Z26) := keep2 (heap_alloc_new w93 Z26) hb4) | skip); have HT94 : Hid (Two w v u w94) := HT93.out.on HH; have HW94 : Hid (Below w14.drew.heap.size w14.drew w94) := HW93.out.trans (HH.mono HW93.out.size); have HI2 : Hid (IsInts w94 (.slice (some ⟨g2, 0, none⟩) ys.length ys.length) ys) := hr2.ints2; have HI3 : Hid (IsInts w94 (.slice (some ⟨g1, 0, none⟩) xs.length xs.length) xs) := HI1.out.on HH; clear hg2 hr2 hb4 HH)
      | (go_at_call 14; refine (CI.out _ _ _ ?_ ?_).mono ?_; (first | exact HI3.out | exact HI3.out.on (below_alloc w94 Z26)); (first | exact HI2.out | exact HI2.out.on (below_alloc w94 Z26)); rintro e w95 ⟨r, rfl, hown, hb5⟩; obtain ⟨a1, n1, q1, rfl⟩ := own_shape hown; have HH : Below w94.heap.size w94 w95 := (by first | exact hb5 | exact (below_alloc w94 Z26).trans (hb5.mono (by simp))); have HW95 : Hid (Below w14.drew.heap.size w14.drew w95) := HW94.out.trans (HH.mono HW94.out.size); (first | (have BX5 := keep2 BX94.out hb5; have cB := cell_of_one BX5; have fB := free_of_one BX5; have MD := made_put (HT94.out.on hb5) BX5 hown (lt_of_block BX94.out) (by first | exact lt_of_block HT14.out.b1 | exact lt_of_block HT93.out.b1); clear BX5) | (have MD := made_new (HT94.out.on hb5) hown (lt_of_block HT94.out.b1)) | (have BX5 := keep2 (heap_alloc_new w94 Z26) hb5; have cB := cell_of_one BX5; have fB := free_of_one BX5; have MD := made_put (HT94.out.on HH) BX5 hown (by simp) (lt_of_block HT94.out.b1); clear BX5)); have HMD : Hid (Made w v u js _ _) := MD; clear hb5 hown MD HH))
    all_goals
      go_wp2_with fail
      go_meet
      obtain ⟨hs1, hs2, hs3⟩ := HS14.out
      have b93 : w14.heap.size ≤ w93.heap.size := HW93.out.size
      have b94 : w14.heap.size ≤ w94.heap.size := HW94.out.size
      have b95 : w14.heap.size ≤ w95.heap.size := HW95.out.size
      refine ⟨_, rfl, HMD, ?_, ?_⟩
      · first
          | exact (HO14.out.drew.on HW95.out).put _ _ (by omega) (by omega)
          | exact (HO14.out.drew.on HW95.out).alloc _
      · first
          | exact (HG14.out.drew.on HW95.out).put _ _ (by omega) (by omega)
          | exact (HG14.out.drew.on HW95.out).alloc _
  case rest =>
  obtain ⟨B13, rfl, HMD, HO15, HG15⟩ := hcut
  obtain ⟨HT15, r13, H13, HN15, hq1, hq2, hq3⟩ := HMD.out
  have HT15 : Hid (Two w v u wc) := HT15
  have HN15 : Hid (OwnR B13 r13 js (w.heap.size + 1 + 1) H13 wc) := HN15
  clear HMD hq1 hq2 hq3 HS14
  clear HT14 HO14 HG14 k14 j14 CI CT CU t14 s14
  have k15 := HN15.out.cell
  have j15 := HO15.out.cell
  go_wp2_with fail
  refine (CE.out js (by have := Hj.out; omega) _ _ _ HN15.out.ints HO15.out.ints).mono ?_
  rintro e w16 ⟨rfl, hb16⟩
  have HT16 : Hid (Two w v u w16) := HT15.out.on hb16
  have HG16 : Hid (OwnR w6.heap.size (.slice a9 n9 q9) (upFrom 1 js.length) (w5.heap.size + 1) w6.heap.size w16) := HG15.out.on hb16
  have k16 := HG16.out.cell
  clear hb16 HT15 HO15 HG15 HN15 k15 j15
  go_wp2_with fail
  refine (CH.out _ _ HG16.out.ints).mono ?_
  rintro e w17 ⟨rfl, hb17⟩
  have HT17 : Hid (Two w v u w17) := HT16.out.on hb17
  clear hb17 HT16 HG16 k16
  go_wp2
  go_ret
  exact ⟨rfl, HT17.out.below⟩
end Go.Proofs.Ytpdhlnnepgkmkaa
