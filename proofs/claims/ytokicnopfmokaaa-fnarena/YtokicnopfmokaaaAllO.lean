/-
  Do all things of a list please a function: the program's own helper.
-/
import Derived.Test.YtokicnopfmokaaaArT
namespace Go.Proofs.Ytokicnopfmokaaa
open Go.RowKit
set_option linter.unusedVariables false
set_option maxRecDepth 100000

theorem take_oneO {xs : List Ob} {k : Nat} (h : k < xs.length) : xs.take (k + 1) = xs.take k ++ [obAt xs k] := take_ob h
theorem all_memO {xs : List Ob} {k : Nat} (h : k < xs.length) : obAt xs k ∈ xs := by rw [obAt_in h]; exact List.getElem_mem h
set_option maxHeartbeats 1000000 in
theorem notOkO0 (fn : Nat) (b : Nat) (x : Ob) (l d m : Value) (o : Bool) (w : World) (hent : ∀ w', Sem.run Try.prog (callFunc fn #[obV x l d m]) w' = .ok (.enter fn #[obV x l d m]) w') (hc : w.cell? ⟨b, 0, none⟩ = some (.func (.func fn) #[] #[])) (H : ∀ w', Below w.heap.size w w' → Calls Try.prog fn #[obV x l d m] w' fun e w'' => e = .returned (.bool o) ∧ Below w'.heap.size w' w'') :
    Calls Try.prog 56 #[obV x l d m, .pointer (some ⟨b, 0, none⟩)] w fun e w' => e = .returned (.bool (!o)) ∧ Below w.heap.size w w' := by
  have HH : Hid (∀ w', Below w.heap.size w w' → Calls Try.prog fn #[obV x l d m] w' fun e w'' => e = .returned (.bool o) ∧ Below w'.heap.size w' w'') := H
  have hbl : b < w.heap.size := World.block_lt_of_cell? w _ hc
  have hbn : b ≠ w.heap.size := Nat.ne_of_lt hbl
  clear H
  go_enter Try.func56, Try.ntmps56
  go_wp2_with fail
  refine (HH.out _ (by go_grown)).mono ?_
  rintro e w1 ⟨rfl, hb⟩
  have HB : Hid (Below w.heap.size w w1) := below_more (by go_grown) hb
  clear HH hb hent
  go_wp2
  go_ret
  exact ⟨rfl, HB.out⟩
set_option maxHeartbeats 2000000 in
theorem indexNotO0 (fn : Nat) (b : Nat) (p0 : Addr) (cap : Nat) (xs : List Ob) (P : Ob → Bool) (w : World) (hx : IsArena w (.slice (some p0) xs.length cap) xs) (hn : xs.length ≤ 9223372036854775807) (hent : ∀ (x : Ob) (l d m : Value) w', Sem.run Try.prog (callFunc fn #[obV x l d m]) w' = .ok (.enter fn #[obV x l d m]) w') (hc : w.cell? ⟨b, 0, none⟩ = some (.func (.func fn) #[] #[])) (H : ∀ i, i < xs.length → ∀ l d m w', Below w.heap.size w w' → Lists w' l d m (obAt xs i) → Calls Try.prog fn #[obV (obAt xs i) l d m] w' fun e w'' => e = .returned (.bool (P (obAt xs i))) ∧ Below w'.heap.size w' w'') :
    Calls Try.prog 21 #[.slice (some p0) xs.length cap, .func (.func 56) #[] #[.pointer (some ⟨b, 0, none⟩)]] w fun e w' => (∃ x : Int, e = .returned (.int .i64 x) ∧ decide (0 ≤ x) = !(xs.all P)) ∧ Below w.heap.size w w' := by
  have HX : Hid (∀ wr, Below w.heap.size w wr → IsArena wr (.slice (some p0) xs.length cap) xs) := fun wr hb => hx.on hb
  have HE : Hid (∀ (x : Ob) (l d m : Value) w', Sem.run Try.prog (callFunc fn #[obV x l d m]) w' = .ok (.enter fn #[obV x l d m]) w') := hent
  have HH : Hid (∀ i, i < xs.length → ∀ l d m w', Below w.heap.size w w' → Lists w' l d m (obAt xs i) → Calls Try.prog fn #[obV (obAt xs i) l d m] w' fun e w'' => e = .returned (.bool (P (obAt xs i))) ∧ Below w'.heap.size w' w'') := H
  have HF : Hid (∀ wr, Below w.heap.size w wr → wr.cell? ⟨b, 0, none⟩ = some (.func (.func fn) #[] #[])) := fun wr hb => (hb.cell (World.block_lt_of_cell? w _ hc)).trans hc
  have hcap : xs.length ≤ cap := by obtain ⟨_, _, hv, h, _⟩ := hx; cases hv; exact h
  clear hx hent H hc
  go_enter Try.func21, Try.ntmps21
  go_wp2
  go_loopw [8] (fun i wr => ∃ k : Nat, k ≤ xs.length ∧ i = .int .i64 k ∧ Hid (∀ e, e ∈ xs.take k → P e = true) ∧ Below w.heap.size w wr) (fun i _ => xs.length - (intOf i).toNat)
  case atStart => exact ⟨0, Nat.zero_le _, rfl, fun e he => absurd he (by simp), Below.refl _ _⟩
  case round =>
    obtain ⟨k, hk, rfl, hall, hnx⟩ := hrel
    by_cases hlt : k < xs.length
    · obtain ⟨p, q, l, d, m, hp, hq, ⟨c0, c1, c2, c3, c4, c5, c6, c7, c8, c9, c10, c11, c12⟩, hu⟩ := (HX.out wr hnx).at hlt
      obtain rfl : p0 = p := by simpa using hp
      clear hp
      have C := notOkO0 fn b (obAt xs k) l d m (P (obAt xs k)) wr (HE.out _ _ _ _) (HF.out wr hnx) (fun w' hb => HH.out k hlt l d m w' (below_more hnx hb) (hu.on hb))
      have hmem : obAt xs k ∈ xs := all_memO hlt
      cases hok : P (obAt xs k) with
      | true =>
        rw [hok] at C
        have HA : Hid (∀ e, e ∈ xs.take (k + 1) → P e = true) := fun e he => by
          rw [take_oneO hlt, List.mem_append] at he
          rcases he with h | h
          · exact hall.out e h
          · rw [List.mem_singleton] at h; rw [h]; exact hok
        clear hok hall hmem
        generalize obAt xs k = x at *
        go_wp2_with fail
        refine C.mono ?_
        rintro e w1 ⟨rfl, hb⟩
        have HN := hid_of (below_more hnx hb)
        clear C hb hnx c0 c1 c2 c3 c4 c5 c6 c7 c8 c9 c10 c11 c12 hq hu
        go_wp2
        go_roundw
        case rel => exact ⟨k + 1, by omega, by go_num, HA, HN.out⟩
        case measure => simp [intOf]; omega
      | false =>
        rw [hok] at C
        have HE2 : Hid (decide (0 ≤ (k : Int)) = !(xs.all P)) := by
          show _ = _
          rw [List.all_eq_false.2 ⟨_, hmem, by rw [hok]; simp⟩]; simp
        clear hok hall hmem
        generalize obAt xs k = x at *
        go_wp2_with fail
        refine C.mono ?_
        rintro e w1 ⟨rfl, hb⟩
        have HN := hid_of (below_more hnx hb)
        clear C hb hnx c0 c1 c2 c3 c4 c5 c6 c7 c8 c9 c10 c11 c12 hq hu
        go_wp2
        go_ret
        exact ⟨⟨_, rfl, HE2.out⟩, HN.out⟩
    · obtain rfl : k = xs.length := by omega
      have HE2 : Hid (decide (0 ≤ (-1 : Int)) = !(xs.all P)) := by
        show _ = _
        rw [List.all_eq_true.2 fun e he => hall.out e (by rw [List.take_length]; exact he)]; rfl
      clear hall
      go_wp2
      go_ret
      exact ⟨⟨_, rfl, HE2.out⟩, hnx⟩
theorem indexNoneO0 (f : Value) (cap : Nat) (w : World) :
    Calls Try.prog 21 #[.slice none 0 cap, f] w fun e w' => (∃ x : Int, e = .returned (.int .i64 x) ∧ decide (0 ≤ x) = false) ∧ Below w.heap.size w w' := by
  go_enter Try.func21, Try.ntmps21
  go_wp2
  go_loopw [8] (fun i wr => i = .int .i64 0 ∧ Below w.heap.size w wr) (fun i _ => 0)
  case atStart => exact ⟨rfl, Below.refl _ _⟩
  case round =>
    obtain ⟨rfl, hnx⟩ := hrel
    go_wp2
    go_ret
    exact ⟨⟨_, rfl, rfl⟩, hnx⟩
theorem containsNotO0 (fn : Nat) (b : Nat) (v : Value) (xs : List Ob) (P : Ob → Bool) (w : World) (hx : IsArena w v xs) (hn : xs.length ≤ 9223372036854775807) (hent : ∀ (x : Ob) (l d m : Value) w', Sem.run Try.prog (callFunc fn #[obV x l d m]) w' = .ok (.enter fn #[obV x l d m]) w') (hc : w.cell? ⟨b, 0, none⟩ = some (.func (.func fn) #[] #[])) (H : ∀ i, i < xs.length → ∀ l d m w', Below w.heap.size w w' → Lists w' l d m (obAt xs i) → Calls Try.prog fn #[obV (obAt xs i) l d m] w' fun e w'' => e = .returned (.bool (P (obAt xs i))) ∧ Below w'.heap.size w' w'') :
    Calls Try.prog 55 #[v, .func (.func 56) #[] #[.pointer (some ⟨b, 0, none⟩)]] w fun e w' => e = .returned (.bool (!(xs.all P))) ∧ Below w.heap.size w w' := by
  have C : Calls Try.prog 21 #[v, .func (.func 56) #[] #[.pointer (some ⟨b, 0, none⟩)]] w fun e w' => (∃ x : Int, e = .returned (.int .i64 x) ∧ decide (0 ≤ x) = !(xs.all P)) ∧ Below w.heap.size w w' := by
    obtain ⟨a, cap, rfl, hcap, _⟩ := id hx
    cases a with
    | some p0 => exact indexNotO0 fn b p0 cap xs P w hx hn hent hc H
    | none =>
      have h0 : xs = [] := by
        obtain ⟨_, _, hv, _, hx⟩ := hx
        cases hv
        cases xs with
        | nil => rfl
        | cons x xs => exact absurd (hx 0 (by simp)) (by simp)
      subst h0
      exact indexNoneO0 _ cap w
  generalize (!(xs.all P)) = o at C ⊢
  obtain ⟨a, cap, rfl, _, _⟩ := hx
  clear hent H hc
  go_enter Try.func55, Try.ntmps55
  go_wp2_with fail
  refine C.mono ?_
  rintro e w1 ⟨⟨x, rfl, hx⟩, hb⟩
  clear C
  have HX : Hid (decide (0 ≤ x) = o) := hx
  clear hx
  go_wp2
  go_ret
  exact ⟨by rw [← HX.out]; rfl, hb⟩
theorem allOkO0 (fn : Nat) (v : Value) (xs : List Ob) (P : Ob → Bool) (w : World) (hx : IsArena w v xs) (hn : xs.length ≤ 9223372036854775807) (hent : ∀ (x : Ob) (l d m : Value) w', Sem.run Try.prog (callFunc fn #[obV x l d m]) w' = .ok (.enter fn #[obV x l d m]) w') (H : ∀ i, i < xs.length → ∀ l d m w', Below w.heap.size w w' → Lists w' l d m (obAt xs i) → Calls Try.prog fn #[obV (obAt xs i) l d m] w' fun e w'' => e = .returned (.bool (P (obAt xs i))) ∧ Below w'.heap.size w' w'') :
    Calls Try.prog 39 #[v, (.func (.func fn) #[] #[])] w fun e w' => e = .returned (.bool (xs.all P)) ∧ Below w.heap.size w w' := by
  have C := containsNotO0 fn w.heap.size v xs P (w.alloc (.cells #[(.func (.func fn) #[] #[])] 49 (0, 0))) (hx.on (below_alloc w _)) hn hent (by simp) (fun i hi l d m w' hb hq => H i hi l d m w' (below_more (below_alloc w _) hb) hq)
  generalize xs.all P = o at C ⊢
  have HC : Hid (Calls Try.prog 55 #[v, .func (.func 56) #[] #[.pointer (some ⟨w.heap.size, 0, none⟩)]] (w.alloc (.cells #[(.func (.func fn) #[] #[])] 49 (0, 0))) fun e w' => e = .returned (.bool (!o)) ∧ Below (w.alloc (.cells #[(.func (.func fn) #[] #[])] 49 (0, 0))).heap.size (w.alloc (.cells #[(.func (.func fn) #[] #[])] 49 (0, 0))) w') := C
  obtain ⟨a, cap, rfl, _, _⟩ := hx
  clear hent H C
  go_enter Try.func39, Try.ntmps39
  go_wp2_with fail
  refine HC.out.mono ?_
  rintro e w1 ⟨rfl, hb⟩
  have HB : Hid (Below w.heap.size w w1) := below_more (below_alloc w _) hb
  clear HC hb
  go_wp2
  go_ret
  exact ⟨by simp, HB.out⟩
set_option maxHeartbeats 1000000 in
theorem notOkO1 (fn : Nat) (c : Value) (b : Nat) (x : Ob) (l d m : Value) (o : Bool) (w : World) (hent : ∀ w', Sem.run Try.prog (callFunc fn #[obV x l d m, c]) w' = .ok (.enter fn #[obV x l d m, c]) w') (hc : w.cell? ⟨b, 0, none⟩ = some (.func (.func fn) #[] #[c])) (H : ∀ w', Below w.heap.size w w' → Calls Try.prog fn #[obV x l d m, c] w' fun e w'' => e = .returned (.bool o) ∧ Below w'.heap.size w' w'') :
    Calls Try.prog 56 #[obV x l d m, .pointer (some ⟨b, 0, none⟩)] w fun e w' => e = .returned (.bool (!o)) ∧ Below w.heap.size w w' := by
  have HH : Hid (∀ w', Below w.heap.size w w' → Calls Try.prog fn #[obV x l d m, c] w' fun e w'' => e = .returned (.bool o) ∧ Below w'.heap.size w' w'') := H
  have hbl : b < w.heap.size := World.block_lt_of_cell? w _ hc
  have hbn : b ≠ w.heap.size := Nat.ne_of_lt hbl
  clear H
  go_enter Try.func56, Try.ntmps56
  go_wp2_with fail
  refine (HH.out _ (by go_grown)).mono ?_
  rintro e w1 ⟨rfl, hb⟩
  have HB : Hid (Below w.heap.size w w1) := below_more (by go_grown) hb
  clear HH hb hent
  go_wp2
  go_ret
  exact ⟨rfl, HB.out⟩
set_option maxHeartbeats 2000000 in
theorem indexNotO1 (fn : Nat) (c : Value) (b : Nat) (p0 : Addr) (cap : Nat) (xs : List Ob) (P : Ob → Bool) (w : World) (hx : IsArena w (.slice (some p0) xs.length cap) xs) (hn : xs.length ≤ 9223372036854775807) (hent : ∀ (x : Ob) (l d m : Value) w', Sem.run Try.prog (callFunc fn #[obV x l d m, c]) w' = .ok (.enter fn #[obV x l d m, c]) w') (hc : w.cell? ⟨b, 0, none⟩ = some (.func (.func fn) #[] #[c])) (H : ∀ i, i < xs.length → ∀ l d m w', Below w.heap.size w w' → Lists w' l d m (obAt xs i) → Calls Try.prog fn #[obV (obAt xs i) l d m, c] w' fun e w'' => e = .returned (.bool (P (obAt xs i))) ∧ Below w'.heap.size w' w'') :
    Calls Try.prog 21 #[.slice (some p0) xs.length cap, .func (.func 56) #[] #[.pointer (some ⟨b, 0, none⟩)]] w fun e w' => (∃ x : Int, e = .returned (.int .i64 x) ∧ decide (0 ≤ x) = !(xs.all P)) ∧ Below w.heap.size w w' := by
  have HX : Hid (∀ wr, Below w.heap.size w wr → IsArena wr (.slice (some p0) xs.length cap) xs) := fun wr hb => hx.on hb
  have HE : Hid (∀ (x : Ob) (l d m : Value) w', Sem.run Try.prog (callFunc fn #[obV x l d m, c]) w' = .ok (.enter fn #[obV x l d m, c]) w') := hent
  have HH : Hid (∀ i, i < xs.length → ∀ l d m w', Below w.heap.size w w' → Lists w' l d m (obAt xs i) → Calls Try.prog fn #[obV (obAt xs i) l d m, c] w' fun e w'' => e = .returned (.bool (P (obAt xs i))) ∧ Below w'.heap.size w' w'') := H
  have HF : Hid (∀ wr, Below w.heap.size w wr → wr.cell? ⟨b, 0, none⟩ = some (.func (.func fn) #[] #[c])) := fun wr hb => (hb.cell (World.block_lt_of_cell? w _ hc)).trans hc
  have hcap : xs.length ≤ cap := by obtain ⟨_, _, hv, h, _⟩ := hx; cases hv; exact h
  clear hx hent H hc
  go_enter Try.func21, Try.ntmps21
  go_wp2
  go_loopw [8] (fun i wr => ∃ k : Nat, k ≤ xs.length ∧ i = .int .i64 k ∧ Hid (∀ e, e ∈ xs.take k → P e = true) ∧ Below w.heap.size w wr) (fun i _ => xs.length - (intOf i).toNat)
  case atStart => exact ⟨0, Nat.zero_le _, rfl, fun e he => absurd he (by simp), Below.refl _ _⟩
  case round =>
    obtain ⟨k, hk, rfl, hall, hnx⟩ := hrel
    by_cases hlt : k < xs.length
    · obtain ⟨p, q, l, d, m, hp, hq, ⟨c0, c1, c2, c3, c4, c5, c6, c7, c8, c9, c10, c11, c12⟩, hu⟩ := (HX.out wr hnx).at hlt
      obtain rfl : p0 = p := by simpa using hp
      clear hp
      have C := notOkO1 fn c b (obAt xs k) l d m (P (obAt xs k)) wr (HE.out _ _ _ _) (HF.out wr hnx) (fun w' hb => HH.out k hlt l d m w' (below_more hnx hb) (hu.on hb))
      have hmem : obAt xs k ∈ xs := all_memO hlt
      cases hok : P (obAt xs k) with
      | true =>
        rw [hok] at C
        have HA : Hid (∀ e, e ∈ xs.take (k + 1) → P e = true) := fun e he => by
          rw [take_oneO hlt, List.mem_append] at he
          rcases he with h | h
          · exact hall.out e h
          · rw [List.mem_singleton] at h; rw [h]; exact hok
        clear hok hall hmem
        generalize obAt xs k = x at *
        go_wp2_with fail
        refine C.mono ?_
        rintro e w1 ⟨rfl, hb⟩
        have HN := hid_of (below_more hnx hb)
        clear C hb hnx c0 c1 c2 c3 c4 c5 c6 c7 c8 c9 c10 c11 c12 hq hu
        go_wp2
        go_roundw
        case rel => exact ⟨k + 1, by omega, by go_num, HA, HN.out⟩
        case measure => simp [intOf]; omega
      | false =>
        rw [hok] at C
        have HE2 : Hid (decide (0 ≤ (k : Int)) = !(xs.all P)) := by
          show _ = _
          rw [List.all_eq_false.2 ⟨_, hmem, by rw [hok]; simp⟩]; simp
        clear hok hall hmem
        generalize obAt xs k = x at *
        go_wp2_with fail
        refine C.mono ?_
        rintro e w1 ⟨rfl, hb⟩
        have HN := hid_of (below_more hnx hb)
        clear C hb hnx c0 c1 c2 c3 c4 c5 c6 c7 c8 c9 c10 c11 c12 hq hu
        go_wp2
        go_ret
        exact ⟨⟨_, rfl, HE2.out⟩, HN.out⟩
    · obtain rfl : k = xs.length := by omega
      have HE2 : Hid (decide (0 ≤ (-1 : Int)) = !(xs.all P)) := by
        show _ = _
        rw [List.all_eq_true.2 fun e he => hall.out e (by rw [List.take_length]; exact he)]; rfl
      clear hall
      go_wp2
      go_ret
      exact ⟨⟨_, rfl, HE2.out⟩, hnx⟩
theorem indexNoneO1 (f : Value) (cap : Nat) (w : World) :
    Calls Try.prog 21 #[.slice none 0 cap, f] w fun e w' => (∃ x : Int, e = .returned (.int .i64 x) ∧ decide (0 ≤ x) = false) ∧ Below w.heap.size w w' := by
  go_enter Try.func21, Try.ntmps21
  go_wp2
  go_loopw [8] (fun i wr => i = .int .i64 0 ∧ Below w.heap.size w wr) (fun i _ => 0)
  case atStart => exact ⟨rfl, Below.refl _ _⟩
  case round =>
    obtain ⟨rfl, hnx⟩ := hrel
    go_wp2
    go_ret
    exact ⟨⟨_, rfl, rfl⟩, hnx⟩
theorem containsNotO1 (fn : Nat) (c : Value) (b : Nat) (v : Value) (xs : List Ob) (P : Ob → Bool) (w : World) (hx : IsArena w v xs) (hn : xs.length ≤ 9223372036854775807) (hent : ∀ (x : Ob) (l d m : Value) w', Sem.run Try.prog (callFunc fn #[obV x l d m, c]) w' = .ok (.enter fn #[obV x l d m, c]) w') (hc : w.cell? ⟨b, 0, none⟩ = some (.func (.func fn) #[] #[c])) (H : ∀ i, i < xs.length → ∀ l d m w', Below w.heap.size w w' → Lists w' l d m (obAt xs i) → Calls Try.prog fn #[obV (obAt xs i) l d m, c] w' fun e w'' => e = .returned (.bool (P (obAt xs i))) ∧ Below w'.heap.size w' w'') :
    Calls Try.prog 55 #[v, .func (.func 56) #[] #[.pointer (some ⟨b, 0, none⟩)]] w fun e w' => e = .returned (.bool (!(xs.all P))) ∧ Below w.heap.size w w' := by
  have C : Calls Try.prog 21 #[v, .func (.func 56) #[] #[.pointer (some ⟨b, 0, none⟩)]] w fun e w' => (∃ x : Int, e = .returned (.int .i64 x) ∧ decide (0 ≤ x) = !(xs.all P)) ∧ Below w.heap.size w w' := by
    obtain ⟨a, cap, rfl, hcap, _⟩ := id hx
    cases a with
    | some p0 => exact indexNotO1 fn c b p0 cap xs P w hx hn hent hc H
    | none =>
      have h0 : xs = [] := by
        obtain ⟨_, _, hv, _, hx⟩ := hx
        cases hv
        cases xs with
        | nil => rfl
        | cons x xs => exact absurd (hx 0 (by simp)) (by simp)
      subst h0
      exact indexNoneO1 _ cap w
  generalize (!(xs.all P)) = o at C ⊢
  obtain ⟨a, cap, rfl, _, _⟩ := hx
  clear hent H hc
  go_enter Try.func55, Try.ntmps55
  go_wp2_with fail
  refine C.mono ?_
  rintro e w1 ⟨⟨x, rfl, hx⟩, hb⟩
  clear C
  have HX : Hid (decide (0 ≤ x) = o) := hx
  clear hx
  go_wp2
  go_ret
  exact ⟨by rw [← HX.out]; rfl, hb⟩
theorem allOkO1 (fn : Nat) (c : Value) (v : Value) (xs : List Ob) (P : Ob → Bool) (w : World) (hx : IsArena w v xs) (hn : xs.length ≤ 9223372036854775807) (hent : ∀ (x : Ob) (l d m : Value) w', Sem.run Try.prog (callFunc fn #[obV x l d m, c]) w' = .ok (.enter fn #[obV x l d m, c]) w') (H : ∀ i, i < xs.length → ∀ l d m w', Below w.heap.size w w' → Lists w' l d m (obAt xs i) → Calls Try.prog fn #[obV (obAt xs i) l d m, c] w' fun e w'' => e = .returned (.bool (P (obAt xs i))) ∧ Below w'.heap.size w' w'') :
    Calls Try.prog 39 #[v, (.func (.func fn) #[] #[c])] w fun e w' => e = .returned (.bool (xs.all P)) ∧ Below w.heap.size w w' := by
  have C := containsNotO1 fn c w.heap.size v xs P (w.alloc (.cells #[(.func (.func fn) #[] #[c])] 49 (0, 0))) (hx.on (below_alloc w _)) hn hent (by simp) (fun i hi l d m w' hb hq => H i hi l d m w' (below_more (below_alloc w _) hb) hq)
  generalize xs.all P = o at C ⊢
  have HC : Hid (Calls Try.prog 55 #[v, .func (.func 56) #[] #[.pointer (some ⟨w.heap.size, 0, none⟩)]] (w.alloc (.cells #[(.func (.func fn) #[] #[c])] 49 (0, 0))) fun e w' => e = .returned (.bool (!o)) ∧ Below (w.alloc (.cells #[(.func (.func fn) #[] #[c])] 49 (0, 0))).heap.size (w.alloc (.cells #[(.func (.func fn) #[] #[c])] 49 (0, 0))) w') := C
  obtain ⟨a, cap, rfl, _, _⟩ := hx
  clear hent H C
  go_enter Try.func39, Try.ntmps39
  go_wp2_with fail
  refine HC.out.mono ?_
  rintro e w1 ⟨rfl, hb⟩
  have HB : Hid (Below w.heap.size w w1) := below_more (below_alloc w _) hb
  clear HC hb
  go_wp2
  go_ret
  exact ⟨by simp, HB.out⟩
end Go.Proofs.Ytokicnopfmokaaa
