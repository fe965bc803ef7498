/-
  The first slot that may be filled: the program.
-/
import Derived.Test.YtglpfgachcoheaaAllO
namespace Go.Proofs.Ytglpfgachcoheaa
open Go.RowKit
set_option linter.unusedVariables false
set_option maxRecDepth 100000

def fills (x : Ob) : Bool := (x.kind == 0) && decide (x.gen < 999)
def firstFill (os : List Ob) : Int := match os.findIdx? fills with | some k => k | none => -1
theorem firstFill_at {os : List Ob} {k : Nat} (h : k < os.length) (hk : fills (obAt os k) = true) (ha : ∀ e, e ∈ os.take k → fills e = false) : firstFill os = k := by
  have e : os.findIdx? fills = some k := by
    rw [List.findIdx?_eq_some_iff_getElem]
    refine ⟨h, by rw [← obAt_in h]; exact hk, fun j hj => ?_⟩
    rw [ha _ (by rw [List.mem_take_iff_getElem]; exact ⟨j, by omega, rfl⟩)]
    simp
  unfold firstFill
  rw [e]
theorem firstFill_no {os : List Ob} (ha : ∀ e, e ∈ os → fills e = false) : firstFill os = -1 := by
  have e : os.findIdx? fills = none := by
    rw [List.findIdx?_eq_none_iff]
    exact ha
  unfold firstFill
  rw [e]
theorem firstFill_le (os : List Ob) : -1 ≤ firstFill os ∧ firstFill os < os.length ∨ firstFill os = -1 := by
  unfold firstFill
  cases e : os.findIdx? fills with
  | none => right; rfl
  | some k =>
    left
    rw [List.findIdx?_eq_some_iff_getElem] at e
    obtain ⟨h, _⟩ := e
    simp only
    omega
theorem mayBeFilled_any (x : Ob) (l d m : Value) (w : World) :
    Calls Try.prog 46 #[obV x l d m] w fun e w' => e = .returned (.bool (fills x)) ∧ Below w.heap.size w w' := by
  by_cases hk : x.kind = 0
  · have e : fills x = decide (x.gen < 999) := by unfold fills; rw [hk]; simp
    have qk : (x.kind == 0) = true := beq_iff_eq.2 hk
    rw [e]
    clear e hk
    go_enter Try.func46, Try.ntmps46
    go_wp2
    go_ret
    exact ⟨rfl, by go_grown⟩
  · have e : fills x = false := by unfold fills; rw [beq_eq_false_iff_ne.2 hk]; simp
    have qk : (x.kind == 0) = false := beq_eq_false_iff_ne.2 hk
    rw [e]
    clear e hk
    go_enter Try.func46, Try.ntmps46
    go_wp2
    go_ret
    exact ⟨rfl, by go_grown⟩
set_option maxHeartbeats 2000000 in
theorem indexFill_any (v : Value) (xs : List Ob) (w : World) (hx : IsArena w v xs) (hn : xs.length ≤ 1048576) :
    Calls Try.prog 45 #[v, .func (.func 46) #[] #[]] w fun e w' => e = .returned (.int .i64 (firstFill xs)) ∧ Below w.heap.size w w' := by
  have HX : Hid (∀ wr, Below w.heap.size w wr → IsArena wr v xs) := fun wr hb => hx.on hb
  obtain ⟨a, cap, rfl, hcap, _⟩ := hx
  go_enter Try.func45, Try.ntmps45
  go_wp2
  go_loopw [8] (fun i wr => ∃ k : Nat, k ≤ xs.length ∧ i = .int .i64 k ∧ Hid (∀ e, e ∈ xs.take k → fills e = false) ∧ Below w.heap.size w wr) (fun i _ => xs.length - (intOf i).toNat)
  case atStart => exact ⟨0, Nat.zero_le _, rfl, fun e he => absurd he (by simp), Below.refl _ _⟩
  case round =>
    obtain ⟨k, hk, rfl, hall, hnx⟩ := hrel
    by_cases hlt : k < xs.length
    · obtain ⟨p, q, l, d, m, rfl, hq, ⟨c0, c1, c2, c3, c4, c5, c6, c7, c8, c9, c10, c11, c12⟩, hu⟩ := (HX.out wr hnx).at hlt
      have C := mayBeFilled_any (obAt xs k) l d m wr
      cases hok : fills (obAt xs k) with
      | false =>
        rw [hok] at C
        have HA : Hid (∀ e, e ∈ xs.take (k + 1) → fills e = false) := fun e he => by
          rw [take_oneO hlt, List.mem_append] at he
          rcases he with h | h
          · exact hall.out e h
          · rw [List.mem_singleton] at h; rw [h]; exact hok
        clear hok hall
        generalize obAt xs k = x at *
        go_wp2_with fail
        refine C.mono ?_
        rintro e w1 ⟨rfl, hb⟩
        have HN := hid_of (below_more hnx hb)
        clear C hb hnx c0 c1 c2 c3 c4 c5 c6 c7 c8 c9 c10 c11 c12 hq hu
        go_wp2
        go_roundw
        case rel => exact ⟨k + 1, by omega, by go_num, HA, HN.out⟩
        case measure => simp [intOf]; omega
      | true =>
        rw [hok] at C
        have HE2 : Hid (firstFill xs = k) := firstFill_at hlt hok hall.out
        clear hok hall
        generalize obAt xs k = x at *
        go_wp2_with fail
        refine C.mono ?_
        rintro e w1 ⟨rfl, hb⟩
        have HN := hid_of (below_more hnx hb)
        clear C hb hnx c0 c1 c2 c3 c4 c5 c6 c7 c8 c9 c10 c11 c12 hq hu
        go_wp2
        go_ret
        exact ⟨by rw [HE2.out]; rfl, HN.out⟩
    · obtain rfl : k = xs.length := by omega
      have HE2 : Hid (firstFill xs = -1) := firstFill_no fun e he => hall.out e (by rw [List.take_length]; exact he)
      clear hall
      go_wp2
      go_ret
      exact ⟨by rw [HE2.out]; rfl, hnx⟩
end Go.Proofs.Ytglpfgachcoheaa
