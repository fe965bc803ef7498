/-
  Is a heap right: the program.
-/
import Derived.Test.YtbdljoldblpffaaGreatHeapT
import Derived.Test.YtbdljoldblpffaaGreatAllI
import Derived.Test.YtbdljoldblpffaaGreatHandI
import Derived.Test.YtbdljoldblpffaaGreatEdge9
import Derived.Test.YtbdljoldblpffaaGreatArOkI
import Derived.Laws.EntriesVeiled
namespace Go.Proofs.YtbdljoldblpffaaGreat
open Go.RowKit
set_option linter.unusedVariables false
set_option maxRecDepth 100000

def distTo (xs : List Int) (n : Nat) : Bool := (List.range n).all fun k => !(hasI (xs.take k) (xs.getD k 0))
theorem distTo_next (xs : List Int) (n : Nat) : distTo xs (n + 1) = (distTo xs n && !(hasI (xs.take n) (xs.getD n 0))) := by simp [distTo, List.range_succ]
theorem distTo_no {xs : List Int} {k n : Nat} (hk : k < n) (h : hasI (xs.take k) (xs.getD k 0) = true) : distTo xs n = false := by
  cases e : distTo xs n with
  | false => rfl
  | true =>
    have := List.all_eq_true.1 e k (List.mem_range.2 hk)
    rw [h] at this
    simp at this
/-- Are all of a list slots, and none of them twice there? -/
def greyB (xs : List Int) : Bool := xs.all (fun x => inB x 0 9) && distTo xs xs.length
theorem isInts_take {w : World} {a : Option Addr} {n cap : Nat} {xs : List Int} (h : IsInts w (.slice a n cap) xs) {k : Nat} (hk : k ≤ xs.length) : IsInts w (.slice a k cap) (xs.take k) := by
  obtain ⟨a', cap', hv, hc, hx⟩ := h
  cases hv
  have e : (xs.take k).length = k := by rw [List.length_take]; omega
  refine ⟨a, cap, by rw [e], by rw [e]; omega, fun i hi => ?_⟩
  rw [e] at hi
  obtain ⟨p, hp, hx'⟩ := hx i (by omega)
  refine ⟨p, hp, ?_⟩
  rw [hx']
  simp [List.getD, hi]
theorem entS0 : ∀ (x : Int) w', Sem.run Tryz.prog (callFunc 30 #[.int .i64 x]) w' = .ok (.enter 30 #[.int .i64 x]) w' := fun _ _ => by rfl
set_option maxHeartbeats 4000000 in
theorem areGrey_any (v : Value) (xs : List Int) (w : World) (hx : IsInts w v xs) (hn : xs.length ≤ 1048576) :
    Calls Tryz.prog 86 #[v] w fun e w' => e = .returned (.bool (greyB xs)) ∧ Below w.heap.size w w' := by
  have C1 := allOkI0 30 v xs (fun x => inB x 0 9) w hx (by omega) entS0 (fun i hi w' _ => (isSlot_b _ w').mono fun e w'' h => ⟨h.1, h.2 ▸ Below.refl _ _⟩)
  have hx0 := hx
  obtain ⟨a, cap, rfl, hcap, _⟩ := hx
  have HX : Hid (∀ w', Below w.heap.size w w' → IsInts w' (.slice a xs.length cap) xs) := fun w' hb => hx0.on hb
  clear hx0
  cases h1 : xs.all (fun x => inB x 0 9) with
  | false =>
    have e : greyB xs = false := by unfold greyB; rw [h1]; rfl
    rw [e]
    rw [h1] at C1
    clear e h1
    go_enter Tryz.func86, Tryz.ntmps86
    go_wp2_with fail
    refine C1.mono ?_
    rintro e w1 ⟨rfl, hb⟩
    go_wp2
    go_ret
    exact ⟨rfl, hb⟩
  | true =>
    have e : greyB xs = distTo xs xs.length := by unfold greyB; rw [h1]; rfl
    rw [e]
    rw [h1] at C1
    clear e h1
    go_enter Tryz.func86, Tryz.ntmps86
    go_wp2_with fail
    refine C1.mono ?_
    rintro e w1 ⟨rfl, hb⟩
    have HB1 : Hid (Below w.heap.size w w1) := hb
    clear C1 hb
    go_wp2
    go_loopw [10] (fun i wr => ∃ k : Nat, k ≤ xs.length ∧ i = .int .i64 k ∧ Hid (distTo xs k = true) ∧ wr = w1) (fun i _ => xs.length - (intOf i).toNat)
    case atStart => exact ⟨0, Nat.zero_le _, rfl, rfl, rfl⟩
    case round =>
      obtain ⟨k, hk, rfl, hd, rfl⟩ := hrel
      by_cases hlt : k < xs.length
      · have hi := HX.out _ HB1.out
        have C2 := contains_any (.slice a k cap) (xs.take k) (xs.getD k 0) wr (isInts_take hi hk) (by rw [List.length_take]; omega)
        obtain ⟨p, rfl, hc⟩ : ∃ p, a = some p ∧ wr.cell? (p.add k) = some (.int .i64 (xs.getD k 0)) := by
          obtain ⟨a', cap', hv, _, hx⟩ := hi
          cases hv
          exact hx k hlt
        have HD : Hid (distTo xs (k + 1) = !(hasI (xs.take k) (xs.getD k 0))) := by show _ = _; rw [distTo_next, hd.out]; rfl
        have HN : Hid (hasI (xs.take k) (xs.getD k 0) = true → distTo xs xs.length = false) := fun h => distTo_no hlt h
        generalize hasI (xs.take k) (xs.getD k 0) = o at C2 HD HN
        generalize xs.getD k 0 = x at hc C2
        clear hi hd
        cases o with
        | true =>
          have HE : Hid (distTo xs xs.length = false) := HN.out rfl
          clear HD HN
          go_wp2_with fail
          refine C2.mono ?_
          rintro e w2 ⟨rfl, rfl⟩
          go_wp2
          go_ret
          exact ⟨by rw [HE.out]; rfl, HB1.out⟩
        | false =>
          clear HN
          go_wp2_with fail
          refine C2.mono ?_
          rintro e w2 ⟨rfl, rfl⟩
          clear C2
          go_wp2
          go_roundw
          case rel => exact ⟨k + 1, by omega, by go_num, HD.out, by first | trivial | rfl⟩
          case measure => simp [intOf]; omega
      · obtain rfl : k = xs.length := by omega
        go_wp2
        go_ret
        exact ⟨by rw [hd.out]; rfl, HB1.out⟩
/-- What is right in a phase. -/
def rightB (p t : Int) (xs : List Int) : Bool := if p = 0 then decide (t = 0) && greyB xs else inB t 0 9 && decide (xs.length = 0)
theorem markRight_any (b : Nat) (a : Value) (p t r : Int) (g : Value) (xs : List Int) (w : World) (hb : w.heap[b]? = some (boxH a p t r g)) (hx : IsInts w g xs) (hn : xs.length ≤ 1048576) :
    Calls Tryz.prog 65 #[.pointer (some ⟨b, 0, none⟩)] w fun e w' => e = .returned (.bool (decide (t = 0) && greyB xs)) ∧ Below w.heap.size w w' := by
  have C := areGrey_any g xs w hx hn
  generalize greyB xs = o at C ⊢
  have c2 : w.cell? ⟨b, 2, none⟩ = some (.int .i64 t) := by simp [World.cell?, hb]
  have c4 : w.cell? ⟨b, 4, none⟩ = some g := by simp [World.cell?, hb]
  obtain ⟨ag, cg, rfl, _, _⟩ := hx
  clear hb hn
  by_cases ht : t = 0
  · subst ht
    go_enter Tryz.func65, Tryz.ntmps65
    go_wp2_with fail
    refine C.mono ?_
    rintro e w1 ⟨rfl, hb⟩
    go_wp2
    go_ret
    exact ⟨by simp, hb⟩
  · rw [decide_eq_false ht]
    have ht2 : (t == 0) = false := by simp [ht]
    clear C
    go_enter Tryz.func65, Tryz.ntmps65
    go_wp2
    go_ret
    exact ⟨by simp, Below.refl _ _⟩
theorem sweepRight_any (b : Nat) (a : Value) (p t r : Int) (g : Value) (xs : List Int) (w : World) (hb : w.heap[b]? = some (boxH a p t r g)) (hx : IsInts w g xs) :
    Calls Tryz.prog 68 #[.pointer (some ⟨b, 0, none⟩)] w fun e w' => e = .returned (.bool (inB t 0 9 && decide (xs.length = 0))) ∧ Below w.heap.size w w' := by
  have C := fun w => isSlot_b t w
  generalize inB t 0 9 = o at C ⊢
  have c2 : w.cell? ⟨b, 2, none⟩ = some (.int .i64 t) := by simp [World.cell?, hb]
  have c4 : w.cell? ⟨b, 4, none⟩ = some g := by simp [World.cell?, hb]
  obtain ⟨ag, cg, rfl, _, _⟩ := hx
  clear hb
  have hl : decide (xs.length = 0) = ((xs.length : Int) == 0) := by
    by_cases h : xs.length = 0
    · rw [h]; rfl
    · rw [decide_eq_false h]; symm; simp; intro e; rw [e] at h; exact h rfl
  rw [hl]
  cases o with
  | false =>
    go_enter Tryz.func68, Tryz.ntmps68
    go_wp2_with fail
    refine (C _).mono ?_
    rintro e w1 ⟨rfl, rfl⟩
    go_wp2
    go_ret
    exact ⟨by simp, Below.refl _ _⟩
  | true =>
    go_enter Tryz.func68, Tryz.ntmps68
    go_wp2_with fail
    refine (C _).mono ?_
    rintro e w1 ⟨rfl, rfl⟩
    go_wp2
    go_ret
    exact ⟨by simp, Below.refl _ _⟩
theorem ixMark (w : World) : Sem.run Tryz.prog (Instr.index 87 (.agg #[.func (.func 65) #[] #[], .func (.func 66) #[] #[], .func (.func 67) #[] #[], .func (.func 68) #[] #[], .func (.func 69) #[] #[], .func (.func 70) #[] #[]]) (.int .i64 0)) w = .ok (.agg #[.func (.func 65) #[] #[], .func (.func 66) #[] #[], .func (.func 67) #[] #[]]) w := by rfl
theorem ixSweep (w : World) : Sem.run Tryz.prog (Instr.index 87 (.agg #[.func (.func 65) #[] #[], .func (.func 66) #[] #[], .func (.func 67) #[] #[], .func (.func 68) #[] #[], .func (.func 69) #[] #[], .func (.func 70) #[] #[]]) (.int .i64 1)) w = .ok (.agg #[.func (.func 68) #[] #[], .func (.func 69) #[] #[], .func (.func 70) #[] #[]]) w := by rfl
theorem fdMark0 (w : World) : Sem.run Tryz.prog (Instr.field 63 (.agg #[.func (.func 65) #[] #[], .func (.func 66) #[] #[], .func (.func 67) #[] #[]]) 0) w = .ok (.func (.func 65) #[] #[]) w := by rfl
theorem fdSweep0 (w : World) : Sem.run Tryz.prog (Instr.field 63 (.agg #[.func (.func 68) #[] #[], .func (.func 69) #[] #[], .func (.func 70) #[] #[]]) 0) w = .ok (.func (.func 68) #[] #[]) w := by rfl
theorem fdMark1 (w : World) : Sem.run Tryz.prog (Instr.field 63 (.agg #[.func (.func 65) #[] #[], .func (.func 66) #[] #[], .func (.func 67) #[] #[]]) 1) w = .ok (.func (.func 66) #[] #[]) w := by rfl
theorem fdSweep1 (w : World) : Sem.run Tryz.prog (Instr.field 63 (.agg #[.func (.func 68) #[] #[], .func (.func 69) #[] #[], .func (.func 70) #[] #[]]) 1) w = .ok (.func (.func 69) #[] #[]) w := by rfl
theorem fdMark2 (w : World) : Sem.run Tryz.prog (Instr.field 63 (.agg #[.func (.func 65) #[] #[], .func (.func 66) #[] #[], .func (.func 67) #[] #[]]) 2) w = .ok (.func (.func 67) #[] #[]) w := by rfl
theorem fdSweep2 (w : World) : Sem.run Tryz.prog (Instr.field 63 (.agg #[.func (.func 68) #[] #[], .func (.func 69) #[] #[], .func (.func 70) #[] #[]]) 2) w = .ok (.func (.func 70) #[] #[]) w := by rfl
theorem phaseOf_mark (a : Option Addr) (n c : Nat) (t r : Int) (u : Option Addr) (m d : Nat) (w : World) :
    Calls Tryz.prog 41 #[hpV (.slice a n c) 0 t r (.slice u m d)] w fun e w' => e = .returned (.agg #[.func (.func 65) #[] #[], .func (.func 66) #[] #[], .func (.func 67) #[] #[]]) ∧ Below w.heap.size w w' := by
  have hix := ixMark
  go_enter Tryz.func41, Tryz.ntmps41
  go_wp2
  refine bodyPost_ret (v := (.agg #[.func (.func 65) #[] #[], .func (.func 66) #[] #[], .func (.func 67) #[] #[]])) (by simp [results, go_sem]) rfl ⟨rfl, by go_grown⟩
theorem phaseOf_sweep (a : Option Addr) (n c : Nat) (t r : Int) (u : Option Addr) (m d : Nat) (w : World) :
    Calls Tryz.prog 41 #[hpV (.slice a n c) 1 t r (.slice u m d)] w fun e w' => e = .returned (.agg #[.func (.func 68) #[] #[], .func (.func 69) #[] #[], .func (.func 70) #[] #[]]) ∧ Below w.heap.size w w' := by
  have hix := ixSweep
  go_enter Tryz.func41, Tryz.ntmps41
  go_wp2
  refine bodyPost_ret (v := (.agg #[.func (.func 68) #[] #[], .func (.func 69) #[] #[], .func (.func 70) #[] #[]])) (by simp [results, go_sem]) rfl ⟨rfl, by go_grown⟩
/-- Is a heap right? -/
def heapOk (os : List Ob) (p t r : Int) (xs : List Int) : Bool := arenaOk os && (inB p 0 1 && (rightB p t xs && inB r 0 1000000))
set_option maxHeartbeats 4000000 in
theorem implHeapOk_mark (a : Value) (t r : Int) (g : Value) (os : List Ob) (xs : List Int) (w : World) (ha : IsArena w a os) (hx : IsInts w g xs) (hl : os.length ≤ 1048576) (hs : Small8 os) (hn : xs.length ≤ 1048576) (h1 : arenaOk os = true) :
    Calls Tryz.prog 29 #[hpV a 0 t r g] w fun e w' => e = .returned (.bool (rightB 0 t xs && inB r 0 1000000)) ∧ Below w.heap.size w w' := by
  have CA : Hid (∀ w', Below w.heap.size w w' → _) := fun w' (hb : Below w.heap.size w w') => implArenaOk_any a os w' (ha.on hb) hl hs
  rw [h1] at CA
  have CB := fun w => fromTo_b 0 0 1 w
  rw [show inB 0 0 1 = true from rfl] at CB
  have CR : Hid (∀ w', Below w.heap.size w w' → w'.heap[w.heap.size]? = some (boxH a 0 t r g) → _) := fun w' (hb : Below w.heap.size w w') (hc : w'.heap[w.heap.size]? = some (boxH a 0 t r g)) => markRight_any w.heap.size a 0 t r g xs w' hc (hx.on hb) hn
  have CT := fun w => isTime_b r w
  have HV : Hid ((w.alloc (boxH a 0 t r g)).heap[w.heap.size]? = some (boxH a 0 t r g)) := heap_alloc_new w _
  have CP := fun w (a : Option Addr) (n c : Nat) (u : Option Addr) (m d : Nat) => phaseOf_mark a n c t r u m d w
  have hfd := fdMark0
  obtain ⟨aa, ca, rfl, _, _⟩ := ha
  obtain ⟨ag, cg, rfl, _, _⟩ := hx
  clear hl hs hn h1
  have ER : rightB 0 t xs = (decide (t = 0) && greyB xs) := by unfold rightB; simp
  rw [ER]
  clear ER
  generalize (decide (t = 0) && greyB xs) = o at CR ⊢
  generalize inB r 0 1000000 = q at CT ⊢
  cases o with
  | false =>
    clear CT
    go_enter Tryz.func29, Tryz.ntmps29
    go_wp2_with fail
    refine (CA.out _ (by go_grown)).mono ?_
    rintro e w1 ⟨rfl, hb1⟩
    have HV1 := hid_of (keep HV.out hb1)
    obtain ⟨hc1, hf1⟩ := bcell hb1
    have HB1 : Hid (Below w.heap.size w w1) := below_more (by go_grown) hb1
    have y10 : w.heap.size < w1.heap.size := lt_of_block HV1.out
    clear hb1 CA HV
    go_wp2_with fail
    refine (CB _).mono ?_
    rintro e w2 ⟨rfl, rfl⟩
    clear CB
    go_wp2_with fail
    refine (CP _ _ _ _ _ _ _).mono ?_
    rintro e w3 ⟨rfl, hb3⟩
    have HV3 := hid_of (keep HV1.out hb3)
    obtain ⟨hc3, hf3⟩ := bcell hb3
    have HB3 : Hid (Below w.heap.size w w3) := below_more HB1.out hb3
    have y30 : w.heap.size < w3.heap.size := lt_of_block HV3.out
    clear hb3 CP HV1
    go_wp2_with fail
    refine (CR.out _ HB3.out HV3.out).mono ?_
    rintro e w4 ⟨rfl, hb4⟩
    have HB4 : Hid (Below w.heap.size w w4) := below_more HB3.out hb4
    clear hb4 CR HV3 hc1 hf1 hc3 hf3 HB3 HB1
    go_wp2
    go_ret
    exact ⟨rfl, HB4.out⟩
  | true =>
    go_enter Tryz.func29, Tryz.ntmps29
    go_wp2_with fail
    refine (CA.out _ (by go_grown)).mono ?_
    rintro e w1 ⟨rfl, hb1⟩
    have HV1 := hid_of (keep HV.out hb1)
    obtain ⟨hc1, hf1⟩ := bcell hb1
    have HB1 : Hid (Below w.heap.size w w1) := below_more (by go_grown) hb1
    have y10 : w.heap.size < w1.heap.size := lt_of_block HV1.out
    clear hb1 CA HV
    go_wp2_with fail
    refine (CB _).mono ?_
    rintro e w2 ⟨rfl, rfl⟩
    clear CB
    go_wp2_with fail
    refine (CP _ _ _ _ _ _ _).mono ?_
    rintro e w3 ⟨rfl, hb3⟩
    have HV3 := hid_of (keep HV1.out hb3)
    obtain ⟨hc3, hf3⟩ := bcell hb3
    have HB3 : Hid (Below w.heap.size w w3) := below_more HB1.out hb3
    have y30 : w.heap.size < w3.heap.size := lt_of_block HV3.out
    clear hb3 CP HV1
    go_wp2_with fail
    refine (CR.out _ HB3.out HV3.out).mono ?_
    rintro e w4 ⟨rfl, hb4⟩
    have HV4 := hid_of (keep HV3.out hb4)
    obtain ⟨hc4, hf4⟩ := bcell hb4
    have HB4 : Hid (Below w.heap.size w w4) := below_more HB3.out hb4
    have y40 : w.heap.size < w4.heap.size := lt_of_block HV4.out
    have k3 : w4.cell? ⟨w.heap.size, 3, none⟩ = some (.int .i64 r) := by have e := HV4.out; simp [World.cell?, e]
    clear hb4 CR HV3 hc1 hf1 hc3 hf3 HB3 HB1 HV4 hc4 hf4
    go_wp2_with fail
    refine (CT _).mono ?_
    rintro e w5 ⟨rfl, rfl⟩
    go_wp2
    go_ret
    exact ⟨by cases q <;> rfl, HB4.out⟩
set_option maxHeartbeats 4000000 in
theorem implHeapOk_sweep (a : Value) (t r : Int) (g : Value) (os : List Ob) (xs : List Int) (w : World) (ha : IsArena w a os) (hx : IsInts w g xs) (hl : os.length ≤ 1048576) (hs : Small8 os) (hn : xs.length ≤ 1048576) (h1 : arenaOk os = true) :
    Calls Tryz.prog 29 #[hpV a 1 t r g] w fun e w' => e = .returned (.bool (rightB 1 t xs && inB r 0 1000000)) ∧ Below w.heap.size w w' := by
  have CA : Hid (∀ w', Below w.heap.size w w' → _) := fun w' (hb : Below w.heap.size w w') => implArenaOk_any a os w' (ha.on hb) hl hs
  rw [h1] at CA
  have CB := fun w => fromTo_b 1 0 1 w
  rw [show inB 1 0 1 = true from rfl] at CB
  have CR : Hid (∀ w', Below w.heap.size w w' → w'.heap[w.heap.size]? = some (boxH a 1 t r g) → _) := fun w' (hb : Below w.heap.size w w') (hc : w'.heap[w.heap.size]? = some (boxH a 1 t r g)) => sweepRight_any w.heap.size a 1 t r g xs w' hc (hx.on hb)
  have CT := fun w => isTime_b r w
  have HV : Hid ((w.alloc (boxH a 1 t r g)).heap[w.heap.size]? = some (boxH a 1 t r g)) := heap_alloc_new w _
  have CP := fun w (a : Option Addr) (n c : Nat) (u : Option Addr) (m d : Nat) => phaseOf_sweep a n c t r u m d w
  have hfd := fdSweep0
  obtain ⟨aa, ca, rfl, _, _⟩ := ha
  obtain ⟨ag, cg, rfl, _, _⟩ := hx
  clear hl hs hn h1
  have ER : rightB 1 t xs = (inB t 0 9 && decide (xs.length = 0)) := by unfold rightB; simp
  rw [ER]
  clear ER
  generalize (inB t 0 9 && decide (xs.length = 0)) = o at CR ⊢
  generalize inB r 0 1000000 = q at CT ⊢
  cases o with
  | false =>
    clear CT
    go_enter Tryz.func29, Tryz.ntmps29
    go_wp2_with fail
    refine (CA.out _ (by go_grown)).mono ?_
    rintro e w1 ⟨rfl, hb1⟩
    have HV1 := hid_of (keep HV.out hb1)
    obtain ⟨hc1, hf1⟩ := bcell hb1
    have HB1 : Hid (Below w.heap.size w w1) := below_more (by go_grown) hb1
    have y10 : w.heap.size < w1.heap.size := lt_of_block HV1.out
    clear hb1 CA HV
    go_wp2_with fail
    refine (CB _).mono ?_
    rintro e w2 ⟨rfl, rfl⟩
    clear CB
    go_wp2_with fail
    refine (CP _ _ _ _ _ _ _).mono ?_
    rintro e w3 ⟨rfl, hb3⟩
    have HV3 := hid_of (keep HV1.out hb3)
    obtain ⟨hc3, hf3⟩ := bcell hb3
    have HB3 : Hid (Below w.heap.size w w3) := below_more HB1.out hb3
    have y30 : w.heap.size < w3.heap.size := lt_of_block HV3.out
    clear hb3 CP HV1
    go_wp2_with fail
    refine (CR.out _ HB3.out HV3.out).mono ?_
    rintro e w4 ⟨rfl, hb4⟩
    have HB4 : Hid (Below w.heap.size w w4) := below_more HB3.out hb4
    clear hb4 CR HV3 hc1 hf1 hc3 hf3 HB3 HB1
    go_wp2
    go_ret
    exact ⟨rfl, HB4.out⟩
  | true =>
    go_enter Tryz.func29, Tryz.ntmps29
    go_wp2_with fail
    refine (CA.out _ (by go_grown)).mono ?_
    rintro e w1 ⟨rfl, hb1⟩
    have HV1 := hid_of (keep HV.out hb1)
    obtain ⟨hc1, hf1⟩ := bcell hb1
    have HB1 : Hid (Below w.heap.size w w1) := below_more (by go_grown) hb1
    have y10 : w.heap.size < w1.heap.size := lt_of_block HV1.out
    clear hb1 CA HV
    go_wp2_with fail
    refine (CB _).mono ?_
    rintro e w2 ⟨rfl, rfl⟩
    clear CB
    go_wp2_with fail
    refine (CP _ _ _ _ _ _ _).mono ?_
    rintro e w3 ⟨rfl, hb3⟩
    have HV3 := hid_of (keep HV1.out hb3)
    obtain ⟨hc3, hf3⟩ := bcell hb3
    have HB3 : Hid (Below w.heap.size w w3) := below_more HB1.out hb3
    have y30 : w.heap.size < w3.heap.size := lt_of_block HV3.out
    clear hb3 CP HV1
    go_wp2_with fail
    refine (CR.out _ HB3.out HV3.out).mono ?_
    rintro e w4 ⟨rfl, hb4⟩
    have HV4 := hid_of (keep HV3.out hb4)
    obtain ⟨hc4, hf4⟩ := bcell hb4
    have HB4 : Hid (Below w.heap.size w w4) := below_more HB3.out hb4
    have y40 : w.heap.size < w4.heap.size := lt_of_block HV4.out
    have k3 : w4.cell? ⟨w.heap.size, 3, none⟩ = some (.int .i64 r) := by have e := HV4.out; simp [World.cell?, e]
    clear hb4 CR HV3 hc1 hf1 hc3 hf3 HB3 HB1 HV4 hc4 hf4
    go_wp2_with fail
    refine (CT _).mono ?_
    rintro e w5 ⟨rfl, rfl⟩
    go_wp2
    go_ret
    exact ⟨by cases q <;> rfl, HB4.out⟩
theorem implHeapOk_any (a : Value) (p t r : Int) (g : Value) (os : List Ob) (xs : List Int) (w : World) (ha : IsArena w a os) (hx : IsInts w g xs) (hl : os.length ≤ 1048576) (hs : Small8 os) (hn : xs.length ≤ 1048576) :
    Calls Tryz.prog 29 #[hpV a p t r g] w fun e w' => e = .returned (.bool (heapOk os p t r xs)) ∧ Below w.heap.size w w' := by
  have CA : Hid (∀ w', Below w.heap.size w w' → _) := fun w' (hb : Below w.heap.size w w') => implArenaOk_any a os w' (ha.on hb) hl hs
  cases h1 : arenaOk os with
  | false =>
    have e : heapOk os p t r xs = false := by unfold heapOk; rw [h1]; rfl
    rw [e]
    rw [h1] at CA
    obtain ⟨aa, ca, rfl, _, _⟩ := ha
    obtain ⟨ag, cg, rfl, _, _⟩ := hx
    clear hl hs hn h1 e
    go_enter Tryz.func29, Tryz.ntmps29
    go_wp2_with fail
    refine (CA.out _ (by go_grown)).mono ?_
    rintro e w1 ⟨rfl, hb1⟩
    have HB1 : Hid (Below w.heap.size w w1) := below_more (by go_grown) hb1
    clear hb1 CA
    go_wp2
    go_ret
    exact ⟨rfl, HB1.out⟩
  | true =>
    by_cases hp : inB p 0 1 = true
    · have hq := inB_true hp
      have e : heapOk os p t r xs = (rightB p t xs && inB r 0 1000000) := by unfold heapOk; rw [h1, hp]; rfl
      rw [e]
      by_cases hp0 : p = 0
      · subst hp0
        exact implHeapOk_mark a t r g os xs w ha hx hl hs hn h1
      · obtain rfl : p = 1 := by omega
        exact implHeapOk_sweep a t r g os xs w ha hx hl hs hn h1
    · have hp' : inB p 0 1 = false := by simpa using hp
      have e : heapOk os p t r xs = false := by unfold heapOk; rw [hp']; simp
      rw [e]
      have CB := fun w => fromTo_b p 0 1 w
      rw [hp'] at CB
      rw [h1] at CA
      have HV : Hid ((w.alloc (boxH a p t r g)).heap[w.heap.size]? = some (boxH a p t r g)) := heap_alloc_new w _
      obtain ⟨aa, ca, rfl, _, _⟩ := ha
      obtain ⟨ag, cg, rfl, _, _⟩ := hx
      clear hl hs hn h1 e hp hp'
      go_enter Tryz.func29, Tryz.ntmps29
      go_wp2_with fail
      refine (CA.out _ (by go_grown)).mono ?_
      rintro e w1 ⟨rfl, hb1⟩
      have HV1 := hid_of (keep HV.out hb1)
      obtain ⟨hc1, hf1⟩ := bcell hb1
      have HB1 : Hid (Below w.heap.size w w1) := below_more (by go_grown) hb1
      have y10 : w.heap.size < w1.heap.size := lt_of_block HV1.out
      clear hb1 CA HV
      go_wp2_with fail
      refine (CB _).mono ?_
      rintro e w2 ⟨rfl, rfl⟩
      go_wp2
      go_ret
      exact ⟨rfl, HB1.out⟩
end Go.Proofs.YtbdljoldblpffaaGreat
