/-
  Do all messages of a list please a function: the program's own helper.
-/
import Derived.Test.YtokicnopfmokaaaArT
namespace Go.Proofs.Ytokicnopfmokaaa
open Go.RowKit
set_option linter.unusedVariables false
set_option maxRecDepth 100000

theorem take_oneM {xs : List Ms} {k : Nat} (h : k < xs.length) : xs.take (k + 1) = xs.take k ++ [msAt xs k] := by
  rw [List.take_add_one, List.getElem?_eq_getElem h]; simp [msAt, List.getD, h]
theorem all_memM {xs : List Ms} {k : Nat} (h : k < xs.length) : msAt xs k ∈ xs := by simp [msAt, List.getD, h]
set_option maxHeartbeats 1000000 in
theorem notOkM0 (fn : Nat) (b : Nat) (x : Ms) (o : Bool) (w : World) (hent : ∀ w', Sem.run Try.prog (callFunc fn #[msV x.f x.n]) w' = .ok (.enter fn #[msV x.f x.n]) w') (hc : w.cell? ⟨b, 0, none⟩ = some (.func (.func fn) #[] #[])) (H : ∀ w', Below w.heap.size w w' → Calls Try.prog fn #[msV x.f x.n] w' fun e w'' => e = .returned (.bool o) ∧ Below w'.heap.size w' w'') :
    Calls Try.prog 101 #[msV x.f x.n, .pointer (some ⟨b, 0, none⟩)] w fun e w' => e = .returned (.bool (!o)) ∧ Below w.heap.size w w' := by
  have HH : Hid (∀ w', Below w.heap.size w w' → Calls Try.prog fn #[msV x.f x.n] w' fun e w'' => e = .returned (.bool o) ∧ Below w'.heap.size w' w'') := H
  have hbl : b < w.heap.size := World.block_lt_of_cell? w _ hc
  have hbn : b ≠ w.heap.size := Nat.ne_of_lt hbl
  clear H
  go_enter Try.func101, Try.ntmps101
  go_wp2_with fail
  refine (HH.out _ (by go_grown)).mono ?_
  rintro e w1 ⟨rfl, hb⟩
  have HB : Hid (Below w.heap.size w w1) := below_more (by go_grown) hb
  clear HH hb hent
  go_wp2
  go_ret
  exact ⟨rfl, HB.out⟩
set_option maxHeartbeats 2000000 in
theorem indexNotM0 (fn : Nat) (b : Nat) (p0 : Addr) (cap : Nat) (xs : List Ms) (P : Ms → Bool) (w : World) (hx : IsMsgs w (.slice (some p0) xs.length cap) xs) (hn : xs.length ≤ 9223372036854775807) (hent : ∀ (x : Ms) w', Sem.run Try.prog (callFunc fn #[msV x.f x.n]) w' = .ok (.enter fn #[msV x.f x.n]) w') (hc : w.cell? ⟨b, 0, none⟩ = some (.func (.func fn) #[] #[])) (H : ∀ i, i < xs.length → ∀ w', Below w.heap.size w w' → Calls Try.prog fn #[msV (msAt xs i).f (msAt xs i).n] w' fun e w'' => e = .returned (.bool (P (msAt xs i))) ∧ Below w'.heap.size w' w'') :
    Calls Try.prog 102 #[.slice (some p0) xs.length cap, .func (.func 101) #[] #[.pointer (some ⟨b, 0, none⟩)]] w fun e w' => (∃ x : Int, e = .returned (.int .i64 x) ∧ decide (0 ≤ x) = !(xs.all P)) ∧ Below w.heap.size w w' := by
  have HX : Hid (∀ wr, Below w.heap.size w wr → IsMsgs wr (.slice (some p0) xs.length cap) xs) := fun wr hb => hx.on hb
  have HE : Hid (∀ (x : Ms) w', Sem.run Try.prog (callFunc fn #[msV x.f x.n]) w' = .ok (.enter fn #[msV x.f x.n]) w') := hent
  have HH : Hid (∀ i, i < xs.length → ∀ w', Below w.heap.size w w' → Calls Try.prog fn #[msV (msAt xs i).f (msAt xs i).n] w' fun e w'' => e = .returned (.bool (P (msAt xs i))) ∧ Below w'.heap.size w' w'') := H
  have HF : Hid (∀ wr, Below w.heap.size w wr → wr.cell? ⟨b, 0, none⟩ = some (.func (.func fn) #[] #[])) := fun wr hb => (hb.cell (World.block_lt_of_cell? w _ hc)).trans hc
  have hcap : xs.length ≤ cap := by obtain ⟨_, _, hv, h, _⟩ := hx; cases hv; exact h
  clear hx hent H hc
  go_enter Try.func102, Try.ntmps102
  go_wp2
  go_loopw [8] (fun i wr => ∃ k : Nat, k ≤ xs.length ∧ i = .int .i64 k ∧ Hid (∀ e, e ∈ xs.take k → P e = true) ∧ Below w.heap.size w wr) (fun i _ => xs.length - (intOf i).toNat)
  case atStart => exact ⟨0, Nat.zero_le _, rfl, fun e he => absurd he (by simp), Below.refl _ _⟩
  case round =>
    obtain ⟨k, hk, rfl, hall, hnx⟩ := hrel
    by_cases hlt : k < xs.length
    · obtain ⟨p, q, hp, hq, c0, c1⟩ := (HX.out wr hnx).at hlt
      obtain rfl : p0 = p := by simpa using hp
      clear hp
      have C := notOkM0 fn b (msAt xs k) (P (msAt xs k)) wr (HE.out _) (HF.out wr hnx) (fun w' hb => HH.out k hlt w' (below_more hnx hb))
      have hmem : msAt xs k ∈ xs := all_memM hlt
      cases hok : P (msAt xs k) with
      | true =>
        rw [hok] at C
        have HA : Hid (∀ e, e ∈ xs.take (k + 1) → P e = true) := fun e he => by
          rw [take_oneM hlt, List.mem_append] at he
          rcases he with h | h
          · exact hall.out e h
          · rw [List.mem_singleton] at h; rw [h]; exact hok
        clear hok hall hmem
        generalize msAt xs k = x at *
        go_wp2_with fail
        refine C.mono ?_
        rintro e w1 ⟨rfl, hb⟩
        have HN := hid_of (below_more hnx hb)
        clear C hb hnx c0 c1 hq
        go_wp2
        go_roundw
        case rel => exact ⟨k + 1, by omega, by go_num, HA, HN.out⟩
        case measure => simp [intOf]; omega
      | false =>
        rw [hok] at C
        have HE2 : Hid (decide (0 ≤ (k : Int)) = !(xs.all P)) := by
          show _ = _
          rw [List.all_eq_false.2 ⟨_, hmem, by rw [hok]; simp⟩]; simp
        clear hok hall hmem
        generalize msAt xs k = x at *
        go_wp2_with fail
        refine C.mono ?_
        rintro e w1 ⟨rfl, hb⟩
        have HN := hid_of (below_more hnx hb)
        clear C hb hnx c0 c1 hq
        go_wp2
        go_ret
        exact ⟨⟨_, rfl, HE2.out⟩, HN.out⟩
    · obtain rfl : k = xs.length := by omega
      have HE2 : Hid (decide (0 ≤ (-1 : Int)) = !(xs.all P)) := by
        show _ = _
        rw [List.all_eq_true.2 fun e he => hall.out e (by rw [List.take_length]; exact he)]; rfl
      clear hall
      go_wp2
      go_ret
      exact ⟨⟨_, rfl, HE2.out⟩, hnx⟩
theorem indexNoneM0 (f : Value) (cap : Nat) (w : World) :
    Calls Try.prog 102 #[.slice none 0 cap, f] w fun e w' => (∃ x : Int, e = .returned (.int .i64 x) ∧ decide (0 ≤ x) = false) ∧ Below w.heap.size w w' := by
  go_enter Try.func102, Try.ntmps102
  go_wp2
  go_loopw [8] (fun i wr => i = .int .i64 0 ∧ Below w.heap.size w wr) (fun i _ => 0)
  case atStart => exact ⟨rfl, Below.refl _ _⟩
  case round =>
    obtain ⟨rfl, hnx⟩ := hrel
    go_wp2
    go_ret
    exact ⟨⟨_, rfl, rfl⟩, hnx⟩
theorem containsNotM0 (fn : Nat) (b : Nat) (v : Value) (xs : List Ms) (P : Ms → Bool) (w : World) (hx : IsMsgs w v xs) (hn : xs.length ≤ 9223372036854775807) (hent : ∀ (x : Ms) w', Sem.run Try.prog (callFunc fn #[msV x.f x.n]) w' = .ok (.enter fn #[msV x.f x.n]) w') (hc : w.cell? ⟨b, 0, none⟩ = some (.func (.func fn) #[] #[])) (H : ∀ i, i < xs.length → ∀ w', Below w.heap.size w w' → Calls Try.prog fn #[msV (msAt xs i).f (msAt xs i).n] w' fun e w'' => e = .returned (.bool (P (msAt xs i))) ∧ Below w'.heap.size w' w'') :
    Calls Try.prog 100 #[v, .func (.func 101) #[] #[.pointer (some ⟨b, 0, none⟩)]] w fun e w' => e = .returned (.bool (!(xs.all P))) ∧ Below w.heap.size w w' := by
  have C : Calls Try.prog 102 #[v, .func (.func 101) #[] #[.pointer (some ⟨b, 0, none⟩)]] w fun e w' => (∃ x : Int, e = .returned (.int .i64 x) ∧ decide (0 ≤ x) = !(xs.all P)) ∧ Below w.heap.size w w' := by
    obtain ⟨a, cap, rfl, hcap, _⟩ := id hx
    cases a with
    | some p0 => exact indexNotM0 fn b p0 cap xs P w hx hn hent hc H
    | none =>
      have h0 : xs = [] := by
        obtain ⟨_, _, hv, _, hx⟩ := hx
        cases hv
        cases xs with
        | nil => rfl
        | cons x xs => exact absurd (hx 0 (by simp)) (by simp)
      subst h0
      exact indexNoneM0 _ cap w
  generalize (!(xs.all P)) = o at C ⊢
  obtain ⟨a, cap, rfl, _, _⟩ := hx
  clear hent H hc
  go_enter Try.func100, Try.ntmps100
  go_wp2_with fail
  refine C.mono ?_
  rintro e w1 ⟨⟨x, rfl, hx⟩, hb⟩
  clear C
  have HX : Hid (decide (0 ≤ x) = o) := hx
  clear hx
  go_wp2
  go_ret
  exact ⟨by rw [← HX.out]; rfl, hb⟩
theorem allOkM0 (fn : Nat) (v : Value) (xs : List Ms) (P : Ms → Bool) (w : World) (hx : IsMsgs w v xs) (hn : xs.length ≤ 9223372036854775807) (hent : ∀ (x : Ms) w', Sem.run Try.prog (callFunc fn #[msV x.f x.n]) w' = .ok (.enter fn #[msV x.f x.n]) w') (H : ∀ i, i < xs.length → ∀ w', Below w.heap.size w w' → Calls Try.prog fn #[msV (msAt xs i).f (msAt xs i).n] w' fun e w'' => e = .returned (.bool (P (msAt xs i))) ∧ Below w'.heap.size w' w'') :
    Calls Try.prog 98 #[v, (.func (.func fn) #[] #[])] w fun e w' => e = .returned (.bool (xs.all P)) ∧ Below w.heap.size w w' := by
  have C := containsNotM0 fn w.heap.size v xs P (w.alloc (.cells #[(.func (.func fn) #[] #[])] 109 (0, 0))) (hx.on (below_alloc w _)) hn hent (by simp) (fun i hi  w' hb => H i hi  w' (below_more (below_alloc w _) hb))
  generalize xs.all P = o at C ⊢
  have HC : Hid (Calls Try.prog 100 #[v, .func (.func 101) #[] #[.pointer (some ⟨w.heap.size, 0, none⟩)]] (w.alloc (.cells #[(.func (.func fn) #[] #[])] 109 (0, 0))) fun e w' => e = .returned (.bool (!o)) ∧ Below (w.alloc (.cells #[(.func (.func fn) #[] #[])] 109 (0, 0))).heap.size (w.alloc (.cells #[(.func (.func fn) #[] #[])] 109 (0, 0))) w') := C
  obtain ⟨a, cap, rfl, _, _⟩ := hx
  clear hent H C
  go_enter Try.func98, Try.ntmps98
  go_wp2_with fail
  refine HC.out.mono ?_
  rintro e w1 ⟨rfl, hb⟩
  have HB : Hid (Below w.heap.size w w1) := below_more (below_alloc w _) hb
  clear HC hb
  go_wp2
  go_ret
  exact ⟨by simp, HB.out⟩
end Go.Proofs.Ytokicnopfmokaaa
