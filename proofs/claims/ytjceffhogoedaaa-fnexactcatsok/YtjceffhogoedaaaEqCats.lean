/-
  Two tables alike.
-/
import Derived.Test.YtjceffhogoedaaaToCats
import Derived.Test.YtjceffhogoedaaaKeep
namespace Go.Proofs.Ytjceffhogoedaaa
open Go.RowKit
set_option linter.unusedVariables false

set_option maxHeartbeats 400000 in
theorem eqCat_same (x : Int) (b : Bool) (w : World) :
    Calls Try.prog 34 #[.agg #[.int .i64 x, .bool b], .agg #[.int .i64 x, .bool b]] w fun e w' => e = .returned (.bool true) ∧ Below w.heap.size w w' := by
  have HB : Hid (Below w.heap.size w ((w.alloc (.cells #[.int .i64 x, .bool b] 43 (0, 0))).alloc (.cells #[.int .i64 x, .bool b] 43 (0, 0)))) := ((Below.refl _ _).alloc (Nat.le_refl _) _).alloc (by simp) _
  have h1 : (x != x) = false := by simp
  have h2 : (b != b) = false := by simp
  go_enter Try.func34, Try.ntmps34
  go_wp2
  all_goals first
    | (go_quiet (fail); go_wp2; go_ret; exact ⟨rfl, below_drewN HB.out _⟩)
    | (go_ret; exact ⟨rfl, HB.out⟩)

set_option maxHeartbeats 400000 in
theorem eqCatS_same (v u : Value) (cs : List (Int × Bool)) (w : World) (hx : IsCats w v cs) (hy : IsCats w u cs) (hn : cs.length ≤ 1048576) :
    Calls Try.prog 17 #[v, u] w fun e w' => e = .returned (.bool true) ∧ Below w.heap.size w w' := by
  have hx0 := hx
  have hy0 := hy
  obtain ⟨a, cap, rfl, hcap, _⟩ := hx
  obtain ⟨b, cap', rfl, hcap', _⟩ := hy
  have HX : Hid (∀ wr, Below w.heap.size w wr → IsCats wr (.slice a cs.length cap) cs) := fun wr hb => hx0.on hb
  have HY : Hid (∀ wr, Below w.heap.size w wr → IsCats wr (.slice b cs.length cap') cs) := fun wr hb => hy0.on hb
  have hne : ((cs.length : Int) != cs.length) = false := by simp
  clear hx0 hy0
  go_enter Try.func17, Try.ntmps17
  go_wp2
  go_loopw [5] (fun i wr => ∃ k : Nat, k ≤ cs.length ∧ i = .int .i64 k ∧ Below w.heap.size w wr) (fun i _ => cs.length - (intOf i).toNat)
  case atStart => exact ⟨0, Nat.zero_le _, rfl, Below.refl _ _⟩
  case round =>
    obtain ⟨k, hk, rfl, hnx⟩ := hrel
    by_cases hlt : k < cs.length
    · obtain ⟨p, q, rfl, hq, c1, c2⟩ := (HX.out wr hnx).at hlt
      obtain ⟨p', q', rfl, hq', c1', c2'⟩ := (HY.out wr hnx).at hlt
      have C : Hid (∀ w, _) := eqCat_same (catAt cs k).1 (catAt cs k).2
      generalize (catAt cs k).1 = x at c1 c1' C
      generalize (catAt cs k).2 = y at c2 c2' C
      go_wp2
      go_region_with (go_at_call 34; refine (C.out _).mono ?_; rintro e w1 ⟨rfl, hb1⟩)
      all_goals have HB1 : Hid (Below w.heap.size w w1) := hnx.drew.trans (hb1.mono hnx.size)
      all_goals clear hb1 hq hq' c1 c2 c1' c2'
      all_goals go_wp2
      all_goals exact ⟨⟨k + 1, by omega, by go_num, HB1.out⟩, by simp [intOf]; omega⟩
    · obtain rfl : k = cs.length := by omega
      go_wp2
      go_ret
      exact ⟨rfl, hnx⟩
end Go.Proofs.Ytjceffhogoedaaa
