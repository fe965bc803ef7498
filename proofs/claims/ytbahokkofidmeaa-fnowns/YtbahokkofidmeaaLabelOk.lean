/-
  When a label is right, and the rest of the laws' helpers on labels.
-/
import Derived.Test.YtbahokkofidmeaaLabel
namespace Go.Proofs.Ytbahokkofidmeaa
open Go.RowKit
set_option linter.unusedVariables false

set_option maxHeartbeats 400000 in
theorem eqLabel_any (v u : Value) (xs ys : List Int) (w : World) (hx : IsInts w v xs) (hy : IsInts w u ys) (hn : xs.length ≤ 1048576) :
    Calls Try.prog 27 #[.agg #[v], .agg #[u]] w fun e w' => e = .returned (.bool (sameInts xs ys)) ∧ Below w.heap.size w w' := by
  have hb1 : Below w.heap.size w ((w.alloc (.cells #[v] 26 (0, 0))).alloc (.cells #[u] 26 (0, 0))) := ((Below.refl _ _).alloc (Nat.le_refl _) _).alloc (by simp) _
  have C := eqIntS_any v u xs ys _ (hx.on hb1) (hy.on hb1) hn
  have HB : Hid (Below w.heap.size w ((w.alloc (.cells #[v] 26 (0, 0))).alloc (.cells #[u] 26 (0, 0)))) := hb1
  clear hb1 hx hy
  obtain ⟨b, hb⟩ : ∃ b, b = sameInts xs ys := ⟨_, rfl⟩
  rw [← hb] at C ⊢
  clear hb
  cases b
  all_goals
    go_enter Try.func27, Try.ntmps27
    go_wp2_with fail
    refine C.mono ?_
    rintro e w' ⟨rfl, hb⟩
    clear C
    go_wp2
    go_ret
    exact ⟨rfl, HB.out.trans (hb.mono HB.out.size)⟩

theorem l1In_any (x lo hi : Int) (w : World) :
    Calls Try.prog 52 #[.int .i64 x, .int .i64 lo, .int .i64 hi] w fun e w' => e = .returned (.bool (decide (lo ≤ x) && decide (x ≤ hi))) ∧ w = w' := by
  by_cases h1 : lo ≤ x
  · by_cases h2 : x ≤ hi
    · go_enter Try.func52, Try.ntmps52
      go_wp2
      go_ret
      exact ⟨by simp [h1, h2], rfl⟩
    · go_enter Try.func52, Try.ntmps52
      go_wp2
      go_ret
      exact ⟨by simp [h2], rfl⟩
  · go_enter Try.func52, Try.ntmps52
    go_wp2
    go_ret
    exact ⟨by simp; omega, rfl⟩

/-- Is a level right? -/
def lvlOk (x : Int) : Bool := decide (0 ≤ x) && decide (x ≤ 3)
/-- Is a label right? -/
def labelOk (xs : List Int) : Bool := decide (xs.length = 4) && xs.all lvlOk
theorem labelOk_len {xs : List Int} (h : xs.length ≠ 4) : labelOk xs = false := by simp [labelOk, h]
theorem labelOk_at {xs : List Int} {k : Nat} (hk : k < xs.length) (h : lvlOk (xs.getD k 0) = false) : labelOk xs = false := by
  have hm : xs.getD k 0 ∈ xs := by simp [List.getD, hk]
  unfold labelOk
  have : xs.all lvlOk = false := List.all_eq_false.2 ⟨_, hm, by rw [h]; simp⟩
  rw [this, Bool.and_false]
theorem labelOk_all {xs : List Int} (hl : xs.length = 4) (h : (xs.take 4).all lvlOk = true) : labelOk xs = true := by
  rw [List.take_of_length_le (by omega)] at h
  simp [labelOk, hl, h]
theorem all_more {xs : List Int} {k : Nat} (hk : k < xs.length) (h : (xs.take k).all lvlOk = true) (hx : lvlOk (xs.getD k 0) = true) : (xs.take (k + 1)).all lvlOk = true := by
  rw [List.take_add_one, List.getElem?_eq_getElem hk, List.all_append, h]
  simp [List.getD, hk] at hx
  simp [hx]

set_option maxHeartbeats 400000 in
theorem specLabelOk_any (v : Value) (xs : List Int) (w : World) (hx : IsInts w v xs) (hn : xs.length ≤ 1048576) :
    Calls Try.prog 40 #[.agg #[v]] w fun e w' => e = .returned (.bool (labelOk xs)) ∧ Below w.heap.size w w' := by
  have hb1 : Below w.heap.size w (w.alloc (.cells #[v] 26 (0, 0))) := (Below.refl _ _).alloc (Nat.le_refl _) _
  have HB : Hid (Below w.heap.size w (w.alloc (.cells #[v] 26 (0, 0)))) := hb1
  obtain ⟨a, cap, rfl, hcap, hx⟩ := hx.on hb1
  clear hb1
  by_cases hl : xs.length = 4
  · have HX : Hid (∀ i, i < xs.length → ∃ p, a = some p ∧ (w.alloc (.cells #[.slice a xs.length cap] 26 (0, 0))).cell? (p.add i) = some (.int .i64 (xs.getD i 0))) := hx
    have HL : Hid (xs.length = 4) := hl
    rw [hl] at hcap HB HX hn ⊢
    clear hx hl
    go_enter Try.func40, Try.ntmps40
    go_wp2
    go_loop [3] (fun i => ∃ k : Nat, k ≤ 4 ∧ i = .int .i64 k ∧ Hid ((xs.take k).all lvlOk = true)) (fun i => 4 - (intOf i).toNat)
    case atStart => exact ⟨0, Nat.zero_le _, rfl, rfl⟩
    case round =>
      obtain ⟨k, hk, rfl, hall⟩ := hrel
      by_cases hlt : k < 4
      · obtain ⟨p, rfl, hc⟩ := HX.out k hlt
        have C := l1In_any (xs.getD k 0) 0 3 (w.alloc (.cells #[.slice (some p) 4 cap] 26 (0, 0)))
        by_cases ho : lvlOk (xs.getD k 0) = true
        · have H1 : Hid ((xs.take (k + 1)).all lvlOk = true) := all_more (by rw [HL.out]; exact hlt) hall.out ho
          rw [show (decide ((0 : Int) ≤ xs.getD k 0) && decide (xs.getD k 0 ≤ 3)) = true from ho] at C
          clear ho
          obtain ⟨x, hx⟩ : ∃ x, x = xs.getD k 0 := ⟨_, rfl⟩
          rw [← hx] at hc C
          clear hx
          go_wp2_with (go_at_call 52; refine C.mono ?_; rintro e w' ⟨rfl, rfl⟩)
          exact ⟨⟨k + 1, by omega, by go_num, H1⟩, by simp [intOf]; omega⟩
        · have ho' : lvlOk (xs.getD k 0) = false := by simpa using ho
          have H1 : Hid (labelOk xs = false) := labelOk_at (by rw [HL.out]; exact hlt) ho'
          rw [show (decide ((0 : Int) ≤ xs.getD k 0) && decide (xs.getD k 0 ≤ 3)) = false from ho'] at C
          clear ho ho'
          obtain ⟨x, hx⟩ : ∃ x, x = xs.getD k 0 := ⟨_, rfl⟩
          rw [← hx] at hc C
          clear hx
          go_wp2_with (go_at_call 52; refine C.mono ?_; rintro e w' ⟨rfl, rfl⟩)
          go_ret
          rw [H1.out]
          exact ⟨rfl, HB.out⟩
      · obtain rfl : k = 4 := by omega
        have H1 : Hid (labelOk xs = true) := labelOk_all HL.out hall.out
        clear hall
        go_wp2
        go_ret
        rw [H1.out]
        exact ⟨rfl, HB.out⟩
  · rw [labelOk_len hl]
    have hne : ((xs.length : Int) != 4) = true := by simp; omega
    clear hx
    go_enter Try.func40, Try.ntmps40
    go_wp2
    go_ret
    exact ⟨rfl, HB.out⟩
end Go.Proofs.Ytbahokkofidmeaa
