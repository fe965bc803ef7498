/-
  The law's own 'has'.
-/
import Derived.Test.YtbahokkofidmeaaSFor
namespace Go.Proofs.Ytbahokkofidmeaa
open Go.RowKit Go.Maps
set_option linter.unusedVariables false

set_option maxHeartbeats 400000 in
theorem lawHas_any (v : Value) (xs : List Int) (x : Int) (w : World) (hx : IsInts w v xs) (hn : xs.length ≤ 1048576) :
    Calls Try.prog 16 #[v, .int .i64 x] w fun e w' => e = .returned (.bool (xs.contains x)) ∧ w = w' := by
  obtain ⟨a, cap, rfl, hcap, hx⟩ := hx
  have HX : Hid (∀ i, i < xs.length → ∃ p, a = some p ∧ w.cell? (p.add i) = some (.int .i64 (xs.getD i 0))) := hx
  obtain ⟨b, hb⟩ : ∃ b, b = xs.contains x := ⟨_, rfl⟩
  rw [← hb]
  have HB : Hid (b = xs.contains x) := hb
  clear hx hb
  go_enter Try.func16, Try.ntmps16
  go_wp2
  go_loop [5] (fun i => ∃ k : Nat, k ≤ xs.length ∧ i = .int .i64 k ∧ Hid (x ∉ xs.take k)) (fun i => xs.length - (intOf i).toNat)
  case atStart => exact ⟨0, Nat.zero_le _, rfl, by show _ ∉ _; simp⟩
  case round =>
    obtain ⟨k, hk, rfl, hall⟩ := hrel
    by_cases hlt : k < xs.length
    · obtain ⟨p, rfl, hc⟩ := HX.out k hlt
      by_cases he : xs.getD k 0 = x
      · have H1 : Hid (xs.contains x = true) := by
          show _ = true
          rw [List.contains_iff_mem, ← he]
          simp [List.getD, hlt]
        rw [he] at hc
        clear hall he
        go_wp2
        go_ret
        exact ⟨by rw [HB.out, H1.out]; rfl, rfl⟩
      · have H1 : Hid (x ∉ xs.take (k + 1)) := by
          show _ ∉ _
          have : xs.take (k + 1) = xs.take k ++ [xs.getD k 0] := by rw [List.take_add_one, List.getElem?_eq_getElem hlt]; simp [hlt]
          rw [this, List.mem_append, List.mem_singleton]
          exact fun h => h.elim hall.out (fun h => he h.symm)
        have hne : (xs.getD k 0 == x) = false := by simpa using he
        obtain ⟨y, hy⟩ : ∃ y, y = xs.getD k 0 := ⟨_, rfl⟩
        rw [← hy] at hc he hne
        clear hy hall
        go_wp2
        exact ⟨⟨k + 1, by omega, by go_num, H1⟩, by simp [intOf]; omega⟩
    · obtain rfl : k = xs.length := by omega
      have H1 : Hid (xs.contains x = false) := by
        have := hall.out
        rw [List.take_length] at this
        show _ = false
        simpa using this
      clear hall
      go_wp2
      go_ret
      exact ⟨by rw [HB.out, H1.out]; rfl, rfl⟩

end Go.Proofs.Ytbahokkofidmeaa
