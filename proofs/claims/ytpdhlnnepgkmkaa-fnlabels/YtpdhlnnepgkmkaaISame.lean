/-
  The program's SameLabel.
-/
import Derived.Test.YtpdhlnnepgkmkaaLvl
namespace Go.Proofs.Ytpdhlnnepgkmkaa
open Go.RowKit
set_option linter.unusedVariables false

set_option maxHeartbeats 400000 in
theorem slicesEqual_any (v u : Value) (xs ys : List Int) (w : World) (hx : IsInts w v xs) (hy : IsInts w u ys) (hn : xs.length ≤ 1048576) :
    Calls Try.prog 39 #[v, u] w fun e w' => e = .returned (.bool (sameInts xs ys)) ∧ Below w.heap.size w w' := by
  obtain ⟨a, cap, rfl, hcap, hx⟩ := hx
  obtain ⟨b, cap2, rfl, hcap2, hy⟩ := hy
  by_cases hl : xs.length = ys.length
  · have HX : Hid (∀ i, i < xs.length → ∃ p, a = some p ∧ w.cell? (p.add i) = some (.int .i64 (xs.getD i 0))) := hx
    have HY : Hid (∀ i, i < ys.length → ∃ p, b = some p ∧ w.cell? (p.add i) = some (.int .i64 (ys.getD i 0))) := hy
    have HL : Hid (xs.length = ys.length) := hl
    obtain ⟨n, hn'⟩ : ∃ n, n = xs.length := ⟨_, rfl⟩
    rw [← hn'] at hl hcap HX hn HL ⊢
    rw [← hl] at hcap2 HY ⊢
    have HN : Hid (n = xs.length ∧ n = ys.length) := ⟨hn', hl⟩
    clear hx hy hl hn' HL
    go_enter Try.func39, Try.ntmps39
    go_wp2
    go_loopw [5, 13] (fun _ i wr => ∃ k : Nat, k ≤ n ∧ i = .int .i64 k ∧ Hid (xs.take k = ys.take k) ∧ Below w.heap.size w wr) (fun _ i _ => n - (intOf i).toNat)
    case atStart => exact ⟨0, Nat.zero_le _, rfl, rfl, Below.refl _ _⟩
    case round =>
      obtain ⟨k, hk, rfl, htk, hnx⟩ := hrel
      by_cases hlt : k < n
      · obtain ⟨p, rfl, hc1⟩ := HX.out k hlt
        obtain ⟨q, rfl, hc2⟩ := HY.out k hlt
        have d1 : wr.cell? (p.add k) = some (.int .i64 (xs.getD k 0)) := (hnx.cell (World.block_lt_of_cell? w _ hc1)).trans hc1
        have d2 : wr.cell? (q.add k) = some (.int .i64 (ys.getD k 0)) := (hnx.cell (World.block_lt_of_cell? w _ hc2)).trans hc2
        have H1 : Hid (xs.getD k 0 = ys.getD k 0 → xs.take (k + 1) = ys.take (k + 1)) := fun he => take_more (by rw [← HN.out.1]; exact hlt) (by rw [← HN.out.2]; exact hlt) htk.out he
        have H2 : Hid (xs.getD k 0 ≠ ys.getD k 0 → sameInts xs ys = false) := fun he => sameInts_no (getD_ne he)
        obtain ⟨x, hx⟩ : ∃ x, x = xs.getD k 0 := ⟨_, rfl⟩
        obtain ⟨y, hy⟩ : ∃ y, y = ys.getD k 0 := ⟨_, rfl⟩
        rw [← hx] at d1 H1 H2
        rw [← hy] at d2 H1 H2
        clear hc1 hc2 hx hy
        by_cases hxy : x = y
        · have hne : (x != y) = false := by simp [hxy]
          have H3 : Hid (xs.take (k + 1) = ys.take (k + 1)) := H1.out hxy
          clear H1 H2 hxy
          go_wp2
          go_quiet (fail)
          go_wp2
          go_roundw
          case rel => exact ⟨k + 1, by omega, by go_num, H3, below_drewN hnx _⟩
          case measure => simp [intOf]; omega
        · have hne : (x != y) = true := by simp [hxy]
          have H3 : Hid (sameInts xs ys = false) := H2.out hxy
          clear H1 H2 hxy
          go_wp2
          go_quiet (fail)
          go_wp2
          go_ret
          rw [H3.out]
          exact ⟨rfl, below_drewN hnx _⟩
      · obtain rfl : k = n := by omega
        have H3 : Hid (sameInts xs ys = true) := by
          have := htk.out
          rw [List.take_of_length_le (by rw [← HN.out.1]; exact Nat.le_refl _), List.take_of_length_le (by rw [← HN.out.2]; exact Nat.le_refl _)] at this
          rw [Hid, this]; exact sameInts_refl _
        go_wp2
        go_ret
        rw [H3.out]
        exact ⟨rfl, hnx⟩
  · rw [sameInts_no (fun h => hl (by rw [h]))]
    have hne : ((xs.length : Int) != (ys.length : Int)) = true := by simp; omega
    clear hx hy
    go_enter Try.func39, Try.ntmps39
    go_wp2
    go_ret
    exact ⟨rfl, Below.refl _ _⟩

set_option maxHeartbeats 400000 in
theorem implSameLabel_any (v u : Value) (xs ys : List Int) (w : World) (hx : IsInts w v xs) (hy : IsInts w u ys) (hn : xs.length ≤ 1048576) :
    Calls Try.prog 17 #[.agg #[v], .agg #[u]] w fun e w' => e = .returned (.bool (sameInts xs ys)) ∧ Below w.heap.size w w' := by
  have hb := boxed_below w v u
  have C := slicesEqual_any v u xs ys _ (hx.on hb) (hy.on hb) hn
  have HB : Hid (Below w.heap.size w (boxed w v u)) := hb
  have hs : Hid ((boxed w v u).heap.size = w.heap.size + 1 + 1) := boxed_size w v u
  obtain ⟨o, ho⟩ : ∃ o, o = sameInts xs ys := ⟨_, rfl⟩
  rw [← ho] at C ⊢
  clear hx hy hb ho
  unfold boxed at C
  go_enter Try.func17, Try.ntmps17
  go_wp2_with fail
  refine C.mono ?_
  rintro e w' ⟨rfl, hb⟩
  clear C
  have HB2 : Hid (Below w.heap.size w w') := HB.out.trans (Below.mono hb (by simp; omega))
  clear hb
  go_wp2
  go_ret
  exact ⟨rfl, HB2.out⟩
end Go.Proofs.Ytpdhlnnepgkmkaa
