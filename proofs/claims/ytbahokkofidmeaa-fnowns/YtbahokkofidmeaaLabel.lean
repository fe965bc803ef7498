/-
  Labels: what the laws' own helpers do with them, and when one is right.
-/
import Derived.Test.YtbahokkofidmeaaInts
import Derived.Laws.ResultCell
import Derived.BigQuiet
import Derived.WalkSmall
namespace Go.Proofs.Ytbahokkofidmeaa
open Go.RowKit
set_option linter.unusedVariables false

theorem RowAt.other {w : World} {g : Nat} {xs : List Int} (h : RowAt w g xs) (a : Addr) (u : Value) (hne : g ≠ a.block) : RowAt (w.setCell a u) g xs := by
  unfold RowAt at *
  rw [heap_setCell_other w a g u hne]; exact h
theorem RowAt.on {w w' : World} {g : Nat} {xs : List Int} (h : RowAt w g xs) (hb : Below w.heap.size w w') : RowAt w' g xs := by
  unfold RowAt at *
  rw [hb.block g (lt_of_block h)]; exact h

theorem toLabel_in (v : Value) (xs : List Int) (w : World) (hx : IsInts w v xs) (hn : xs.length ≤ 1048576) :
    Calls Try.prog 23 #[v] (((w.alloc (.cells #[v] 44 (0, 0))).alloc (.cells #[.slice none 0 0] 26 (0, 0))).alloc (.cells #[.slice none 0 0] 26 (0, 0))) fun e w' =>
      e = .returned (.slice (some ⟨w.heap.size + 1 + 1 + 1, 0, none⟩) xs.length xs.length) ∧ Hid (RowAt w' (w.heap.size + 1 + 1 + 1) xs) ∧ w'.heap[w.heap.size + 1]? = some (.cells #[.slice none 0 0] 26 (0, 0)) ∧ w'.heap[w.heap.size + 1 + 1]? = some (.cells #[.slice none 0 0] 26 (0, 0)) ∧ Hid (Below w.heap.size w w') := by
  have hb1 : Below w.heap.size w (((w.alloc (.cells #[v] 44 (0, 0))).alloc (.cells #[.slice none 0 0] 26 (0, 0))).alloc (.cells #[.slice none 0 0] 26 (0, 0))) :=
    (((Below.refl _ _).alloc (Nat.le_refl _) _).alloc (by simp) _).alloc (by simp; omega) _
  have C := toIntS_any v xs _ (hx.on hb1) hn
  have hs : (((w.alloc (.cells #[v] 44 (0, 0))).alloc (.cells #[.slice none 0 0] 26 (0, 0))).alloc (.cells #[.slice none 0 0] 26 (0, 0))).heap.size = w.heap.size + 1 + 1 + 1 := by simp
  refine C.mono ?_
  rintro e w' ⟨rfl, hrow, hb⟩
  rw [hs] at hrow hb ⊢
  refine ⟨rfl, hrow, ?_, ?_, hb1.trans (hb.mono (by omega))⟩
  · rw [hb.block _ (by omega), heap_alloc_old _ _ (by simp)]
    have := heap_alloc_new (w.alloc (.cells #[v] 44 (0, 0))) (.cells #[.slice none 0 0] 26 (0, 0))
    simpa using this
  · rw [hb.block _ (by omega)]
    have := heap_alloc_new ((w.alloc (.cells #[v] 44 (0, 0))).alloc (.cells #[.slice none 0 0] 26 (0, 0))) (.cells #[.slice none 0 0] 26 (0, 0))
    simpa using this

set_option maxHeartbeats 400000 in
theorem toLabel_any (v : Value) (xs : List Int) (w : World) (hx : IsInts w v xs) (hn : xs.length ≤ 1048576) :
    Calls Try.prog 26 #[.agg #[v]] w fun e w' => ∃ g, e = .returned (.agg #[.slice (some ⟨g, 0, none⟩) xs.length xs.length]) ∧ w.heap.size ≤ g ∧ RowAt w' g xs ∧ Below w.heap.size w w' := by
  have C := toLabel_in v xs w hx hn
  clear hx
  go_enter Try.func26, Try.ntmps26
  go_wp2_with fail
  refine C.mono ?_
  rintro e w' ⟨rfl, hrow, h1, h2, hb⟩
  clear C
  have c1 : w'.cell? ⟨w.heap.size + 1, 0, none⟩ = some (.slice none 0 0) := by simp [World.cell?, h1]
  have c2 : w'.cell? ⟨w.heap.size + 1 + 1, 0, none⟩ = some (.slice none 0 0) := by simp [World.cell?, h2]
  have f1 : w'.frozen? ⟨w.heap.size + 1, 0, none⟩ = false := by simp [World.frozen?, h1]
  have f2 : w'.frozen? ⟨w.heap.size + 1 + 1, 0, none⟩ = false := by simp [World.frozen?, h2]
  clear h1 h2
  go_wp2
  have q0 : ((w'.setCell ⟨w.heap.size + 1 + 1, 0, none⟩ (.slice (some ⟨w.heap.size + 1 + 1 + 1, 0, none⟩) xs.length xs.length)).setCell ⟨w.heap.size + 1, 0, none⟩ (.slice (some ⟨w.heap.size + 1 + 1 + 1, 0, none⟩) xs.length xs.length)).cell? ⟨w.heap.size + 1, 0, none⟩ = some (.slice (some ⟨w.heap.size + 1 + 1 + 1, 0, none⟩) xs.length xs.length) := by
    refine World.cell?_setCell_same _ _ _ (u := .slice none 0 0) ?_
    rw [World.cell?_setCell_other _ _ _ _ (by simp)]; exact c1
  refine bodyPost_ret (v := .agg #[.slice (some ⟨w.heap.size + 1 + 1 + 1, 0, none⟩) xs.length xs.length]) (by simp [results, go_sem, q0]) rfl ⟨_, rfl, by omega, ?_, ?_⟩
  · exact (hrow.out.other _ _ (by simp)).other _ _ (by simp; omega)
  · exact (hb.out.setCell (by simp; omega) _).setCell (by simp) _

/-- Are two lists the same? -/
def sameInts (xs ys : List Int) : Bool := decide (xs = ys)
theorem sameInts_refl (xs : List Int) : sameInts xs xs = true := by simp [sameInts]
theorem sameInts_no {xs ys : List Int} (h : xs ≠ ys) : sameInts xs ys = false := by simp [sameInts, h]
theorem take_more {xs ys : List Int} {k : Nat} (hx : k < xs.length) (hy : k < ys.length) (h : xs.take k = ys.take k) (he : xs.getD k 0 = ys.getD k 0) : xs.take (k + 1) = ys.take (k + 1) := by
  rw [List.take_add_one, List.take_add_one, h, List.getElem?_eq_getElem hx, List.getElem?_eq_getElem hy]
  simp [List.getD, hx, hy] at he
  rw [he]
theorem getD_ne {xs ys : List Int} {k : Nat} (he : xs.getD k 0 ≠ ys.getD k 0) : xs ≠ ys := fun h => he (by rw [h])

set_option maxHeartbeats 400000 in
theorem eqIntS_any (v u : Value) (xs ys : List Int) (w : World) (hx : IsInts w v xs) (hy : IsInts w u ys) (hn : xs.length ≤ 1048576) :
    Calls Try.prog 24 #[v, u] w fun e w' => e = .returned (.bool (sameInts xs ys)) ∧ Below w.heap.size w w' := by
  obtain ⟨a, cap, rfl, hcap, hx⟩ := hx
  obtain ⟨b, cap2, rfl, hcap2, hy⟩ := hy
  by_cases hl : xs.length = ys.length
  · have HX : Hid (∀ i, i < xs.length → ∃ p, a = some p ∧ w.cell? (p.add i) = some (.int .i64 (xs.getD i 0))) := hx
    have HY : Hid (∀ i, i < ys.length → ∃ p, b = some p ∧ w.cell? (p.add i) = some (.int .i64 (ys.getD i 0))) := hy
    have HL : Hid (xs.length = ys.length) := hl
    obtain ⟨n, hn'⟩ : ∃ n, n = xs.length := ⟨_, rfl⟩
    rw [← hn'] at hl hcap HX hn HL ⊢
    rw [← hl] at hcap2 HY ⊢
    have HN : Hid (n = xs.length ∧ n = ys.length) := ⟨hn', hl⟩
    clear hx hy hl hn' HL
    go_enter Try.func24, Try.ntmps24
    go_wp2
    go_loopw [5] (fun i wr => ∃ k : Nat, k ≤ n ∧ i = .int .i64 k ∧ Hid (xs.take k = ys.take k) ∧ Below w.heap.size w wr) (fun i _ => n - (intOf i).toNat)
    case atStart => exact ⟨0, Nat.zero_le _, rfl, rfl, Below.refl _ _⟩
    case round =>
      obtain ⟨k, hk, rfl, htk, hnx⟩ := hrel
      by_cases hlt : k < n
      · obtain ⟨p, rfl, hc1⟩ := HX.out k hlt
        obtain ⟨q, rfl, hc2⟩ := HY.out k hlt
        have d1 : wr.cell? (p.add k) = some (.int .i64 (xs.getD k 0)) := (hnx.cell (World.block_lt_of_cell? w _ hc1)).trans hc1
        have d2 : wr.cell? (q.add k) = some (.int .i64 (ys.getD k 0)) := (hnx.cell (World.block_lt_of_cell? w _ hc2)).trans hc2
        have H1 : Hid (xs.getD k 0 = ys.getD k 0 → xs.take (k + 1) = ys.take (k + 1)) := fun he => take_more (by rw [← HN.out.1]; exact hlt) (by rw [← HN.out.2]; exact hlt) htk.out he
        have H2 : Hid (xs.getD k 0 ≠ ys.getD k 0 → sameInts xs ys = false) := fun he => sameInts_no (getD_ne he)
        obtain ⟨x, hx⟩ : ∃ x, x = xs.getD k 0 := ⟨_, rfl⟩
        obtain ⟨y, hy⟩ : ∃ y, y = ys.getD k 0 := ⟨_, rfl⟩
        rw [← hx] at d1 H1 H2
        rw [← hy] at d2 H1 H2
        clear hc1 hc2 hx hy
        by_cases hxy : x = y
        · have hne : (x != y) = false := by simp [hxy]
          have H3 : Hid (xs.take (k + 1) = ys.take (k + 1)) := H1.out hxy
          clear H1 H2 hxy
          go_wp2
          go_quiet (fail)
          go_wp2
          go_roundw
          case rel => exact ⟨k + 1, by omega, by go_num, H3, below_drewN hnx _⟩
          case measure => simp [intOf]; omega
        · have hne : (x != y) = true := by simp [hxy]
          have H3 : Hid (sameInts xs ys = false) := H2.out hxy
          clear H1 H2 hxy
          go_wp2
          go_quiet (fail)
          go_wp2
          go_ret
          rw [H3.out]
          exact ⟨rfl, below_drewN hnx _⟩
      · obtain rfl : k = n := by omega
        have H3 : Hid (sameInts xs ys = true) := by
          have := htk.out
          rw [List.take_of_length_le (by rw [← HN.out.1]; exact Nat.le_refl _), List.take_of_length_le (by rw [← HN.out.2]; exact Nat.le_refl _)] at this
          rw [Hid, this]; exact sameInts_refl _
        go_wp2
        go_ret
        rw [H3.out]
        exact ⟨rfl, hnx⟩
  · rw [sameInts_no (fun h => hl (by rw [h]))]
    have hne : ((xs.length : Int) != (ys.length : Int)) = true := by simp; omega
    clear hx hy
    go_enter Try.func24, Try.ntmps24
    go_wp2
    go_ret
    exact ⟨rfl, Below.refl _ _⟩
end Go.Proofs.Ytbahokkofidmeaa
