/-
  Slices of categories: what is read of one, and when one is right.
-/
import Derived.Test.YtjceffhogoedaaaBase
namespace Go.Proofs.Ytjceffhogoedaaa
open Go.RowKit
set_option linter.unusedVariables false

/-- The place of a table. -/
def catAt (cs : List (Int × Bool)) (i : Nat) : Int × Bool := cs.getD i (0, false)
/-- A slice of categories that reads as 'cs'. -/
def IsCats (w : World) (v : Value) (cs : List (Int × Bool)) : Prop :=
  ∃ (a : Option Addr) (cap : Nat), v = .slice a cs.length cap ∧ cs.length ≤ cap ∧ ∀ i, i < cs.length → ∃ p, a = some p ∧ w.cell? (p.add (i * 2)) = some (.int .i64 (catAt cs i).1) ∧ w.cell? (p.add (i * 2 + 1)) = some (.bool (catAt cs i).2)
theorem IsCats.on {w w' : World} {v : Value} {cs : List (Int × Bool)} (h : IsCats w v cs) (hb : Below w.heap.size w w') : IsCats w' v cs := by
  obtain ⟨a, cap, hv, hc, hx⟩ := h
  refine ⟨a, cap, hv, hc, fun i hi => ?_⟩
  obtain ⟨p, hp, h1, h2⟩ := hx i hi
  exact ⟨p, hp, (hb.cell (World.block_lt_of_cell? w _ h1)).trans h1, (hb.cell (World.block_lt_of_cell? w _ h2)).trans h2⟩

set_option maxHeartbeats 400000 in
theorem szCatS_any (a : Option Addr) (n cap : Nat) (left : Int) (w : World) (h0 : 0 ≤ left) (h1 : left ≤ 1048576) (hn : n ≤ 9223372036854775807) :
    Calls Try.prog 14 #[.slice a n cap, .int .i64 left] w fun e w' => e = .returned (.int .i64 (szOf left n)) ∧ w = w' := by
  by_cases h : (n : Int) ≤ left
  · rw [szOf_yes h]
    have hw : wrap64 (left - n) = left - n := by unfold wrap64; omega
    go_enter Try.func14, Try.ntmps14
    go_wp2
    go_ret
    exact ⟨rfl, rfl⟩
  · rw [szOf_no h]
    have hw : wrap64 (left - n) = left - n := by unfold wrap64; omega
    go_enter Try.func14, Try.ntmps14
    go_wp2
    go_ret
    exact ⟨rfl, rfl⟩

/-- Is a generation right? -/
def genOk (c : Int × Bool) : Bool := decide (0 ≤ c.1) && decide (c.1 ≤ 999)
/-- Is a table right? -/
def catsOk (cs : List (Int × Bool)) : Bool := decide (cs.length = 4) && (List.range 4).all fun i => genOk (catAt cs i)
theorem catsOk_len {cs : List (Int × Bool)} (h : cs.length ≠ 4) : catsOk cs = false := by simp [catsOk, h]
theorem catsOk_at {cs : List (Int × Bool)} {k : Nat} (hk : k < 4) (h : genOk (catAt cs k) = false) : catsOk cs = false := by
  unfold catsOk
  have : ((List.range 4).all fun i => genOk (catAt cs i)) = false := List.all_eq_false.2 ⟨k, List.mem_range.2 hk, by simp [h]⟩
  rw [this, Bool.and_false]
theorem catsOk_all {cs : List (Int × Bool)} (hl : cs.length = 4) (h : ∀ i, i < 4 → genOk (catAt cs i) = true) : catsOk cs = true := by
  unfold catsOk
  rw [hl]
  simp only [decide_true, Bool.true_and]
  exact List.all_eq_true.2 fun i hi => h i (List.mem_range.1 hi)
theorem catsOk_gen {cs : List (Int × Bool)} (h : catsOk cs = true) {i : Nat} (hi : i < 4) : 0 ≤ (catAt cs i).1 ∧ (catAt cs i).1 ≤ 999 := by
  unfold catsOk at h
  rw [Bool.and_eq_true] at h
  have := List.all_eq_true.1 h.2 i (List.mem_range.2 hi)
  unfold genOk at this
  simpa using this
theorem catsOk_four {cs : List (Int × Bool)} (h : catsOk cs = true) : cs.length = 4 := by
  unfold catsOk at h
  rw [Bool.and_eq_true] at h
  simpa using h.1

set_option maxHeartbeats 400000 in
theorem specCatsOk_any (v : Value) (cs : List (Int × Bool)) (w : World) (hx : IsCats w v cs) (hn : cs.length ≤ 1048576) :
    Calls Try.prog 13 #[v] w fun e w' => e = .returned (.bool (catsOk cs)) ∧ w' = w := by
  obtain ⟨a, cap, rfl, hcap, hx⟩ := hx
  by_cases hl : cs.length = 4
  · have HX : Hid (∀ i, i < cs.length → ∃ p, a = some p ∧ w.cell? (p.add (i * 2)) = some (.int .i64 (catAt cs i).1) ∧ w.cell? (p.add (i * 2 + 1)) = some (.bool (catAt cs i).2)) := hx
    have HL : Hid (cs.length = 4) := hl
    obtain ⟨ans, hans⟩ : ∃ b, b = catsOk cs := ⟨_, rfl⟩
    rw [← hans]
    have HA : Hid (ans = catsOk cs) := hans
    rw [hl] at hcap HX hn ⊢
    clear hx hl hans
    go_enter Try.func13, Try.ntmps13
    go_wp2
    go_loop [3] (fun i => ∃ k : Nat, k ≤ 4 ∧ i = .int .i64 k ∧ Hid (∀ i, i < k → genOk (catAt cs i) = true)) (fun i => 4 - (intOf i).toNat)
    case atStart => exact ⟨0, Nat.zero_le _, rfl, fun i hi => absurd hi (Nat.not_lt_zero _)⟩
    case round =>
      obtain ⟨k, hk, rfl, hall⟩ := hrel
      by_cases hlt : k < 4
      · obtain ⟨p, rfl, hc, _⟩ := HX.out k hlt
        have C := l1In_any (catAt cs k).1 0 999 w
        by_cases ho : genOk (catAt cs k) = true
        · have H1 : Hid (∀ i, i < k + 1 → genOk (catAt cs i) = true) := fun i hi => by
            by_cases he : i = k
            · rw [he]; exact ho
            · exact hall.out i (by omega)
          rw [show (decide ((0 : Int) ≤ (catAt cs k).1) && decide ((catAt cs k).1 ≤ 999)) = true from ho] at C
          generalize (catAt cs k).1 = x at hc C
          clear ho hall
          go_wp2_with (go_at_call 30; refine C.mono ?_; rintro e w' ⟨rfl, rfl⟩)
          exact ⟨⟨k + 1, by omega, by go_num, H1⟩, by simp [intOf]; omega⟩
        · have ho' : genOk (catAt cs k) = false := by simpa using ho
          have H1 : Hid (catsOk cs = false) := catsOk_at hlt ho'
          rw [show (decide ((0 : Int) ≤ (catAt cs k).1) && decide ((catAt cs k).1 ≤ 999)) = false from ho'] at C
          generalize (catAt cs k).1 = x at hc C
          clear ho ho' hall
          go_wp2_with (go_at_call 30; refine C.mono ?_; rintro e w' ⟨rfl, rfl⟩)
          go_ret
          exact ⟨by rw [HA.out, H1.out]; rfl, rfl⟩
      · obtain rfl : k = 4 := by omega
        have H1 : Hid (catsOk cs = true) := catsOk_all HL.out hall.out
        clear hall
        go_wp2
        go_ret
        exact ⟨by rw [HA.out, H1.out]; rfl, rfl⟩
  · rw [catsOk_len hl]
    have hne : ((cs.length : Int) != 4) = true := by simp; omega
    clear hx
    go_enter Try.func13, Try.ntmps13
    go_wp2
    go_ret
    exact ⟨rfl, rfl⟩
end Go.Proofs.Ytjceffhogoedaaa
