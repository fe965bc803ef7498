/-
  The model's SameLabel and Flows.
-/
import Derived.Test.YtpdhlnnepgkmkaaLabelOk
namespace Go.Proofs.Ytpdhlnnepgkmkaa
open Go.RowKit
set_option linter.unusedVariables false

/-- Two labels in boxes of their own. -/
def boxed (w : World) (v u : Value) : World := (w.alloc (.cells #[v] 26 (0, 0))).alloc (.cells #[u] 26 (0, 0))
theorem boxed_size (w : World) (v u : Value) : (boxed w v u).heap.size = w.heap.size + 1 + 1 := by simp [boxed]
theorem boxed_below (w : World) (v u : Value) : Below w.heap.size w (boxed w v u) := ((Below.refl _ _).alloc (Nat.le_refl _) _).alloc (by simp) _
theorem boxed_one (w : World) (v u : Value) : (boxed w v u).heap[w.heap.size]? = some (.cells #[v] 26 (0, 0)) := by
  unfold boxed
  rw [heap_alloc_old _ _ (by simp)]
  exact heap_alloc_new w _
theorem boxed_two (w : World) (v u : Value) : (boxed w v u).heap[w.heap.size + 1]? = some (.cells #[u] 26 (0, 0)) := by
  have := heap_alloc_new (w.alloc (.cells #[v] 26 (0, 0))) (.cells #[u] 26 (0, 0))
  simpa [boxed] using this
/-- A world behind the two boxes. -/
structure Behind (w : World) (v u : Value) (wr : World) : Prop where
  kept : Below (w.heap.size + 1 + 1) (boxed w v u) wr
theorem Behind.start (w : World) (v u : Value) : Behind w v u (boxed w v u) := ⟨Below.refl _ _⟩
theorem Behind.one {w wr : World} {v u : Value} (h : Behind w v u wr) : wr.cell? ⟨w.heap.size, 0, none⟩ = some v := by
  rw [h.kept.cell (by simp; omega)]; simp [World.cell?, boxed_one]
theorem Behind.two {w wr : World} {v u : Value} (h : Behind w v u wr) : wr.cell? ⟨w.heap.size + 1, 0, none⟩ = some u := by
  rw [h.kept.cell (by simp)]; simp [World.cell?, boxed_two]
theorem Behind.below {w wr : World} {v u : Value} (h : Behind w v u wr) : Below w.heap.size w wr := (boxed_below w v u).trans (h.kept.mono (by omega))
theorem Behind.drewN {w wr : World} {v u : Value} (h : Behind w v u wr) (n : Nat) : Behind w v u (wr.drewN n) := ⟨below_drewN h.kept n⟩
theorem Behind.on {w wr wr' : World} {v u : Value} (h : Behind w v u wr) (hb : Below wr.heap.size wr wr') : Behind w v u wr' := ⟨h.kept.trans (hb.mono (by have := h.kept.size; rw [boxed_size] at this; exact this))⟩

set_option maxHeartbeats 400000 in
theorem specSameLabel_any (v u : Value) (xs ys : List Int) (w : World) (hx : IsInts w v xs) (hy : IsInts w u ys) (hn : xs.length ≤ 1048576) :
    Calls Try.prog 25 #[.agg #[v], .agg #[u]] w fun e w' => e = .returned (.bool (sameInts xs ys)) ∧ Below w.heap.size w w' := by
  obtain ⟨a, cap, rfl, hcap, hx⟩ := hx
  obtain ⟨b, cap2, rfl, hcap2, hy⟩ := hy
  by_cases hl : xs.length = ys.length
  · have HX : Hid (∀ i, i < xs.length → ∃ p, a = some p ∧ w.cell? (p.add i) = some (.int .i64 (xs.getD i 0))) := hx
    have HY : Hid (∀ i, i < ys.length → ∃ p, b = some p ∧ w.cell? (p.add i) = some (.int .i64 (ys.getD i 0))) := hy
    have HL : Hid (xs.length = ys.length) := hl
    obtain ⟨n, hn'⟩ : ∃ n, n = xs.length := ⟨_, rfl⟩
    rw [← hn'] at hl hcap HX hn HL ⊢
    rw [← hl] at hcap2 HY ⊢
    have HN : Hid (n = xs.length ∧ n = ys.length) := ⟨hn', hl⟩
    clear hx hy hl hn' HL
    go_enter Try.func25, Try.ntmps25
    go_wp2
    go_loopw [5] (fun i wr => ∃ k : Nat, k ≤ n ∧ i = .int .i64 k ∧ Hid (xs.take k = ys.take k) ∧ Behind w (.slice a n cap) (.slice b n cap2) wr) (fun i _ => n - (intOf i).toNat)
    case atStart => exact ⟨0, Nat.zero_le _, rfl, rfl, Behind.start _ _ _⟩
    case round =>
      obtain ⟨k, hk, rfl, htk, hnx⟩ := hrel
      have b1 := hnx.one
      have b2 := hnx.two
      by_cases hlt : k < n
      · obtain ⟨p, rfl, hc1⟩ := HX.out k hlt
        obtain ⟨q, rfl, hc2⟩ := HY.out k hlt
        have d1 : wr.cell? (p.add k) = some (.int .i64 (xs.getD k 0)) := (hnx.below.cell (World.block_lt_of_cell? w _ hc1)).trans hc1
        have d2 : wr.cell? (q.add k) = some (.int .i64 (ys.getD k 0)) := (hnx.below.cell (World.block_lt_of_cell? w _ hc2)).trans hc2
        have H1 : Hid (xs.getD k 0 = ys.getD k 0 → xs.take (k + 1) = ys.take (k + 1)) := fun he => take_more (by rw [← HN.out.1]; exact hlt) (by rw [← HN.out.2]; exact hlt) htk.out he
        have H2 : Hid (xs.getD k 0 ≠ ys.getD k 0 → sameInts xs ys = false) := fun he => sameInts_no (getD_ne he)
        obtain ⟨x, hx⟩ : ∃ x, x = xs.getD k 0 := ⟨_, rfl⟩
        obtain ⟨y, hy⟩ : ∃ y, y = ys.getD k 0 := ⟨_, rfl⟩
        rw [← hx] at d1 H1 H2
        rw [← hy] at d2 H1 H2
        clear hc1 hc2 hx hy
        by_cases hxy : x = y
        · have hne : (x != y) = false := by simp [hxy]
          have H3 : Hid (xs.take (k + 1) = ys.take (k + 1)) := H1.out hxy
          clear H1 H2 hxy
          go_wp2
          go_quiet (fail)
          go_wp2
          go_roundw
          case rel => exact ⟨k + 1, by omega, by go_num, H3, hnx.drewN _⟩
          case measure => simp [intOf]; omega
        · have hne : (x != y) = true := by simp [hxy]
          have H3 : Hid (sameInts xs ys = false) := H2.out hxy
          clear H1 H2 hxy
          go_wp2
          go_quiet (fail)
          go_wp2
          go_ret
          rw [H3.out]
          exact ⟨rfl, (hnx.drewN _).below⟩
      · obtain rfl : k = n := by omega
        have H3 : Hid (sameInts xs ys = true) := by
          have := htk.out
          rw [List.take_of_length_le (by rw [← HN.out.1]; exact Nat.le_refl _), List.take_of_length_le (by rw [← HN.out.2]; exact Nat.le_refl _)] at this
          rw [Hid, this]; exact sameInts_refl _
        go_wp2
        go_ret
        rw [H3.out]
        exact ⟨rfl, hnx.below⟩
  · rw [sameInts_no (fun h => hl (by rw [h]))]
    have hne : ((xs.length : Int) != (ys.length : Int)) = true := by simp; omega
    clear hx hy
    go_enter Try.func25, Try.ntmps25
    go_wp2
    go_ret
    exact ⟨rfl, boxed_below _ _ _⟩

/-- Is no level of the one above that of the other? -/
def leAll (xs ys : List Int) : Bool := (List.range 4).all fun i => decide (xs.getD i 0 ≤ ys.getD i 0)
theorem leAll_no {xs ys : List Int} {k : Nat} (hk : k < 4) (h : ¬ xs.getD k 0 ≤ ys.getD k 0) : leAll xs ys = false := by
  unfold leAll; exact List.all_eq_false.2 ⟨k, List.mem_range.2 hk, by simpa using h⟩
theorem leAll_yes {xs ys : List Int} (h : ∀ i, i < 4 → xs.getD i 0 ≤ ys.getD i 0) : leAll xs ys = true := by
  unfold leAll; exact List.all_eq_true.2 fun i hi => decide_eq_true (h i (List.mem_range.1 hi))
theorem le_more {xs ys : List Int} {k : Nat} (h : ∀ i, i < k → xs.getD i 0 ≤ ys.getD i 0) (hk : xs.getD k 0 ≤ ys.getD k 0) : ∀ i, i < k + 1 → xs.getD i 0 ≤ ys.getD i 0 := by
  intro i hi
  by_cases he : i = k
  · subst he; exact hk
  · exact h i (by omega)
/-- May the one flow to the other? -/
def flowsTo (xs ys : List Int) : Bool := labelOk xs && labelOk ys && leAll xs ys
theorem labelOk_four {xs : List Int} (h : labelOk xs = true) : xs.length = 4 := by
  unfold labelOk at h; simp at h; exact h.1

set_option maxHeartbeats 400000 in
theorem specFlows_any (v u : Value) (xs ys : List Int) (w : World) (hx : IsInts w v xs) (hy : IsInts w u ys) (hn : xs.length ≤ 1048576) (hm : ys.length ≤ 1048576) :
    Calls Try.prog 26 #[.agg #[v], .agg #[u]] w fun e w' => e = .returned (.bool (flowsTo xs ys)) ∧ Below w.heap.size w w' := by
  have HB : Hid (Below w.heap.size w (boxed w v u)) := boxed_below w v u
  have C1 := specLabelOk_any v xs (boxed w v u) (hx.on (boxed_below w v u)) hn
  have c2 := fun w' (hb : Below (boxed w v u).heap.size (boxed w v u) w') => specLabelOk_any u ys w' ((hy.on (boxed_below w v u)).on hb) hm
  have C2 : Hid (∀ w', Below (boxed w v u).heap.size (boxed w v u) w' → _) := c2
  clear c2
  by_cases h1 : labelOk xs = true
  · rw [h1] at C1
    by_cases h2 : labelOk ys = true
    · simp only [h2] at C2
      have hf : flowsTo xs ys = leAll xs ys := by simp [flowsTo, h1, h2]
      have l1 := labelOk_four h1
      have l2 := labelOk_four h2
      rw [hf]
      obtain ⟨a, cap, rfl, hcap, hx⟩ := hx
      obtain ⟨b, cap2, rfl, hcap2, hy⟩ := hy
      have HX : Hid (∀ i, i < xs.length → ∃ p, a = some p ∧ w.cell? (p.add i) = some (.int .i64 (xs.getD i 0))) := hx
      have HY : Hid (∀ i, i < ys.length → ∃ p, b = some p ∧ w.cell? (p.add i) = some (.int .i64 (ys.getD i 0))) := hy
      rw [l1] at C1 C2 HX HB hcap ⊢
      rw [l2] at C1 C2 HY HB hcap2 ⊢
      clear hx hy hf h1 h2 hn hm l1 l2
      go_enter Try.func26, Try.ntmps26
      go_wp2_with fail
      refine C1.mono ?_
      rintro e w1 ⟨rfl, hb1⟩
      clear C1
      have B1 := (Behind.start w (.slice a 4 cap) (.slice b 4 cap2)).on hb1
      have x2 := B1.two
      have HB1 : Hid (Behind w (.slice a 4 cap) (.slice b 4 cap2) w1) := B1
      have Hb1 : Hid (Below (boxed w (.slice a 4 cap) (.slice b 4 cap2)).heap.size (boxed w (.slice a 4 cap) (.slice b 4 cap2)) w1) := hb1
      clear B1 hb1
      go_wp2_with fail
      refine (C2.out w1 Hb1.out).mono ?_
      rintro e w2 ⟨rfl, hb2⟩
      clear C2 x2 Hb1
      have B2 := HB1.out.on hb2
      clear HB1 hb2
      go_wp2
      go_loopw [5] (fun i wr => ∃ k : Nat, k ≤ 4 ∧ i = .int .i64 k ∧ Hid (∀ i, i < k → xs.getD i 0 ≤ ys.getD i 0) ∧ Behind w (.slice a 4 cap) (.slice b 4 cap2) wr) (fun i _ => 4 - (intOf i).toNat)
      case atStart => exact ⟨0, Nat.zero_le _, rfl, fun i hi => absurd hi (by omega), B2⟩
      case round =>
        obtain ⟨k, hk, rfl, htk, hnx⟩ := hrel
        have b1 := hnx.one
        have b2 := hnx.two
        clear B2
        by_cases hlt : k < 4
        · obtain ⟨p, rfl, hc1⟩ := HX.out k hlt
          obtain ⟨q, rfl, hc2⟩ := HY.out k hlt
          have d1 : wr.cell? (p.add k) = some (.int .i64 (xs.getD k 0)) := (hnx.below.cell (World.block_lt_of_cell? w _ hc1)).trans hc1
          have d2 : wr.cell? (q.add k) = some (.int .i64 (ys.getD k 0)) := (hnx.below.cell (World.block_lt_of_cell? w _ hc2)).trans hc2
          have H1 : Hid (xs.getD k 0 ≤ ys.getD k 0 → ∀ i, i < k + 1 → xs.getD i 0 ≤ ys.getD i 0) := fun he => le_more htk.out he
          have H2 : Hid (¬ xs.getD k 0 ≤ ys.getD k 0 → leAll xs ys = false) := fun he => leAll_no hlt he
          have gx : ∃ x, x = xs.getD k 0 := ⟨_, rfl⟩
          have gy : ∃ y, y = ys.getD k 0 := ⟨_, rfl⟩
          obtain ⟨x, hx⟩ := gx
          obtain ⟨y, hy⟩ := gy
          have H1' : Hid (x ≤ y → ∀ i, i < k + 1 → xs.getD i 0 ≤ ys.getD i 0) := by rw [hx, hy]; exact H1
          have H2' : Hid (¬ x ≤ y → leAll xs ys = false) := by rw [hx, hy]; exact H2
          rw [← hx] at d1
          rw [← hy] at d2
          clear hc1 hc2 hx hy H1 H2
          by_cases hxy : x ≤ y
          · have H3 : Hid (∀ i, i < k + 1 → xs.getD i 0 ≤ ys.getD i 0) := H1'.out hxy
            clear H1' H2'
            go_wp2
            go_quiet (fail)
            go_wp2
            go_roundw
            case rel => exact ⟨k + 1, by omega, by go_num, H3, hnx.drewN _⟩
            case measure => simp [intOf]; omega
          · have H3 : Hid (leAll xs ys = false) := H2'.out hxy
            clear H1' H2'
            go_wp2
            go_quiet (fail)
            go_wp2
            go_ret
            rw [H3.out]
            exact ⟨rfl, (hnx.drewN _).below⟩
        · obtain rfl : k = 4 := by omega
          have H3 : Hid (leAll xs ys = true) := leAll_yes htk.out
          go_wp2
          go_ret
          rw [H3.out]
          exact ⟨rfl, hnx.below⟩
    · have h2' : labelOk ys = false := by simpa using h2
      simp only [h2'] at C2
      rw [show flowsTo xs ys = false by simp [flowsTo, h2']]
      clear h1 h2 h2' hx hy
      go_enter Try.func26, Try.ntmps26
      go_wp2_with fail
      refine C1.mono ?_
      rintro e w1 ⟨rfl, hb1⟩
      clear C1
      have B1 := (Behind.start w v u).on hb1
      have x2 := B1.two
      have HB1 : Hid (Behind w v u w1) := B1
      have Hb1 : Hid (Below (boxed w v u).heap.size (boxed w v u) w1) := hb1
      clear B1 hb1
      go_wp2_with fail
      refine (C2.out w1 Hb1.out).mono ?_
      rintro e w2 ⟨rfl, hb2⟩
      clear C2 x2 Hb1
      go_wp2
      go_ret
      exact ⟨rfl, (HB1.out.on hb2).below⟩
  · have h1' : labelOk xs = false := by simpa using h1
    rw [h1'] at C1
    rw [show flowsTo xs ys = false by simp [flowsTo, h1']]
    clear h1 h1' hx hy C2
    go_enter Try.func26, Try.ntmps26
    go_wp2_with fail
    refine C1.mono ?_
    rintro e w1 ⟨rfl, hb1⟩
    clear C1
    go_wp2
    go_ret
    exact ⟨rfl, ((Behind.start w v u).on hb1).below⟩
end Go.Proofs.Ytpdhlnnepgkmkaa
