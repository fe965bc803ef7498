/-
  Is a heap right: the program. Is a heap right: the model.
-/
import Derived.Test.YtbdljoldblpffaaGreatHeapT
import Derived.Test.YtbdljoldblpffaaGreatAllI
import Derived.Test.YtbdljoldblpffaaGreatHandI
import Derived.Test.YtbdljoldblpffaaGreatEdgeT9
import Derived.Test.YtbdljoldblpffaaGreatArOkI
import Derived.Laws.EntriesVeiled
import Derived.Test.YtbdljoldblpffaaGreatArOkS
namespace Go.Proofs.YtbdljoldblpffaaGreat
open Go.RowKit
set_option linter.unusedVariables false
set_option maxRecDepth 100000

def distTo (xs : List Int) (n : Nat) : Bool := (List.range n).all fun k => !(hasI (xs.take k) (xs.getD k 0))
theorem distTo_next (xs : List Int) (n : Nat) : distTo xs (n + 1) = (distTo xs n && !(hasI (xs.take n) (xs.getD n 0))) := by simp [distTo, List.range_succ]
theorem distTo_no {xs : List Int} {k n : Nat} (hk : k < n) (h : hasI (xs.take k) (xs.getD k 0) = true) : distTo xs n = false := by
  cases e : distTo xs n with
  | false => rfl
  | true =>
    have := List.all_eq_true.1 e k (List.mem_range.2 hk)
    rw [h] at this
    simp at this
/-- Are all of a list slots, and none of them twice there? -/
def greyB (xs : List Int) : Bool := xs.all (fun x => inB x 0 9) && distTo xs xs.length
theorem isInts_take {w : World} {a : Option Addr} {n cap : Nat} {xs : List Int} (h : IsInts w (.slice a n cap) xs) {k : Nat} (hk : k ≤ xs.length) : IsInts w (.slice a k cap) (xs.take k) := by
  obtain ⟨a', cap', hv, hc, hx⟩ := h
  cases hv
  have e : (xs.take k).length = k := by rw [List.length_take]; omega
  refine ⟨a, cap, by rw [e], by rw [e]; omega, fun i hi => ?_⟩
  rw [e] at hi
  obtain ⟨p, hp, hx'⟩ := hx i (by omega)
  refine ⟨p, hp, ?_⟩
  rw [hx']
  simp [List.getD, hi]
theorem entS0 : ∀ (x : Int) w', Sem.run Tryz.prog (callFunc 30 #[.int .i64 x]) w' = .ok (.enter 30 #[.int .i64 x]) w' := fun _ _ => by rfl
set_option maxHeartbeats 4000000 in
theorem areGrey_any (v : Value) (xs : List Int) (w : World) (hx : IsInts w v xs) (hn : xs.length ≤ 1048576) :
    Calls Tryz.prog 86 #[v] w fun e w' => e = .returned (.bool (greyB xs)) ∧ Below w.heap.size w w' := by
  have C1 := allOkI0 30 v xs (fun x => inB x 0 9) w hx (by omega) entS0 (fun i hi w' _ => (isSlot_b _ w').mono fun e w'' h => ⟨h.1, h.2 ▸ Below.refl _ _⟩)
  have hx0 := hx
  obtain ⟨a, cap, rfl, hcap, _⟩ := hx
  have HX : Hid (∀ w', Below w.heap.size w w' → IsInts w' (.slice a xs.length cap) xs) := fun w' hb => hx0.on hb
  clear hx0
  cases h1 : xs.all (fun x => inB x 0 9) with
  | false =>
    have e : greyB xs = false := by unfold greyB; rw [h1]; rfl
    rw [e]
    rw [h1] at C1
    clear e h1
    go_enter Tryz.func86, Tryz.ntmps86
    go_wp2_with fail
    refine C1.mono ?_
    rintro e w1 ⟨rfl, hb⟩
    go_wp2
    go_ret
    exact ⟨rfl, hb⟩
  | true =>
    have e : greyB xs = distTo xs xs.length := by unfold greyB; rw [h1]; rfl
    rw [e]
    rw [h1] at C1
    clear e h1
    go_enter Tryz.func86, Tryz.ntmps86
    go_wp2_with fail
    refine C1.mono ?_
    rintro e w1 ⟨rfl, hb⟩
    have HB1 : Hid (Below w.heap.size w w1) := hb
    clear C1 hb
    go_wp2
    go_loopw [10] (fun i wr => ∃ k : Nat, k ≤ xs.length ∧ i = .int .i64 k ∧ Hid (distTo xs k = true) ∧ wr = w1) (fun i _ => xs.length - (intOf i).toNat)
    case atStart => exact ⟨0, Nat.zero_le _, rfl, rfl, rfl⟩
    case round =>
      obtain ⟨k, hk, rfl, hd, rfl⟩ := hrel
      by_cases hlt : k < xs.length
      · have hi := HX.out _ HB1.out
        have C2 := contains_any (.slice a k cap) (xs.take k) (xs.getD k 0) wr (isInts_take hi hk) (by rw [List.length_take]; omega)
        obtain ⟨p, rfl, hc⟩ : ∃ p, a = some p ∧ wr.cell? (p.add k) = some (.int .i64 (xs.getD k 0)) := by
          obtain ⟨a', cap', hv, _, hx⟩ := hi
          cases hv
          exact hx k hlt
        have HD : Hid (distTo xs (k + 1) = !(hasI (xs.take k) (xs.getD k 0))) := by show _ = _; rw [distTo_next, hd.out]; rfl
        have HN : Hid (hasI (xs.take k) (xs.getD k 0) = true → distTo xs xs.length = false) := fun h => distTo_no hlt h
        generalize hasI (xs.take k) (xs.getD k 0) = o at C2 HD HN
        generalize xs.getD k 0 = x at hc C2
        clear hi hd
        cases o with
        | true =>
          have HE : Hid (distTo xs xs.length = false) := HN.out rfl
          clear HD HN
          go_wp2_with fail
          refine C2.mono ?_
          rintro e w2 ⟨rfl, rfl⟩
          go_wp2
          go_ret
          exact ⟨by rw [HE.out]; rfl, HB1.out⟩
        | false =>
          clear HN
          go_wp2_with fail
          refine C2.mono ?_
          rintro e w2 ⟨rfl, rfl⟩
          clear C2
          go_wp2
          go_roundw
          case rel => exact ⟨k + 1, by omega, by go_num, HD.out, by first | trivial | rfl⟩
          case measure => simp [intOf]; omega
      · obtain rfl : k = xs.length := by omega
        go_wp2
        go_ret
        exact ⟨by rw [hd.out]; rfl, HB1.out⟩
/-- What is right in a phase. -/
def rightB (p t : Int) (xs : List Int) : Bool := if p = 0 then decide (t = 0) && greyB xs else inB t 0 9 && decide (xs.length = 0)
theorem markRight_any (b : Nat) (a : Value) (p t r : Int) (g : Value) (xs : List Int) (w : World) (hb : w.heap[b]? = some (boxH a p t r g)) (hx : IsInts w g xs) (hn : xs.length ≤ 1048576) :
    Calls Tryz.prog 65 #[.pointer (some ⟨b, 0, none⟩)] w fun e w' => e = .returned (.bool (decide (t = 0) && greyB xs)) ∧ Below w.heap.size w w' := by
  have C := areGrey_any g xs w hx hn
  generalize greyB xs = o at C ⊢
  have c2 : w.cell? ⟨b, 2, none⟩ = some (.int .i64 t) := by simp [World.cell?, hb]
  have c4 : w.cell? ⟨b, 4, none⟩ = some g := by simp [World.cell?, hb]
  obtain ⟨ag, cg, rfl, _, _⟩ := hx
  clear hb hn
  by_cases ht : t = 0
  · subst ht
    go_enter Tryz.func65, Tryz.ntmps65
    go_wp2_with fail
    refine C.mono ?_
    rintro e w1 ⟨rfl, hb⟩
    go_wp2
    go_ret
    exact ⟨by simp, hb⟩
  · rw [decide_eq_false ht]
    have ht2 : (t == 0) = false := by simp [ht]
    clear C
    go_enter Tryz.func65, Tryz.ntmps65
    go_wp2
    go_ret
    exact ⟨by simp, Below.refl _ _⟩
theorem sweepRight_any (b : Nat) (a : Value) (p t r : Int) (g : Value) (xs : List Int) (w : World) (hb : w.heap[b]? = some (boxH a p t r g)) (hx : IsInts w g xs) :
    Calls Tryz.prog 68 #[.pointer (some ⟨b, 0, none⟩)] w fun e w' => e = .returned (.bool (inB t 0 9 && decide (xs.length = 0))) ∧ Below w.heap.size w w' := by
  have C := fun w => isSlot_b t w
  generalize inB t 0 9 = o at C ⊢
  have c2 : w.cell? ⟨b, 2, none⟩ = some (.int .i64 t) := by simp [World.cell?, hb]
  have c4 : w.cell? ⟨b, 4, none⟩ = some g := by simp [World.cell?, hb]
  obtain ⟨ag, cg, rfl, _, _⟩ := hx
  clear hb
  have hl : decide (xs.length = 0) = ((xs.length : Int) == 0) := by
    by_cases h : xs.length = 0
    · rw [h]; rfl
    · rw [decide_eq_false h]; symm; simp; intro e; rw [e] at h; exact h rfl
  rw [hl]
  cases o with
  | false =>
    go_enter Tryz.func68, Tryz.ntmps68
    go_wp2_with fail
    refine (C _).mono ?_
    rintro e w1 ⟨rfl, rfl⟩
    go_wp2
    go_ret
    exact ⟨by simp, Below.refl _ _⟩
  | true =>
    go_enter Tryz.func68, Tryz.ntmps68
    go_wp2_with fail
    refine (C _).mono ?_
    rintro e w1 ⟨rfl, rfl⟩
    go_wp2
    go_ret
    exact ⟨by simp, Below.refl _ _⟩
theorem ixMark (w : World) : Sem.run Tryz.prog (Instr.index 87 (.agg #[.func (.func 65) #[] #[], .func (.func 66) #[] #[], .func (.func 67) #[] #[], .func (.func 68) #[] #[], .func (.func 69) #[] #[], .func (.func 70) #[] #[]]) (.int .i64 0)) w = .ok (.agg #[.func (.func 65) #[] #[], .func (.func 66) #[] #[], .func (.func 67) #[] #[]]) w := by rfl
theorem ixSweep (w : World) : Sem.run Tryz.prog (Instr.index 87 (.agg #[.func (.func 65) #[] #[], .func (.func 66) #[] #[], .func (.func 67) #[] #[], .func (.func 68) #[] #[], .func (.func 69) #[] #[], .func (.func 70) #[] #[]]) (.int .i64 1)) w = .ok (.agg #[.func (.func 68) #[] #[], .func (.func 69) #[] #[], .func (.func 70) #[] #[]]) w := by rfl
theorem fdMark0 (w : World) : Sem.run Tryz.prog (Instr.field 63 (.agg #[.func (.func 65) #[] #[], .func (.func 66) #[] #[], .func (.func 67) #[] #[]]) 0) w = .ok (.func (.func 65) #[] #[]) w := by rfl
theorem fdSweep0 (w : World) : Sem.run Tryz.prog (Instr.field 63 (.agg #[.func (.func 68) #[] #[], .func (.func 69) #[] #[], .func (.func 70) #[] #[]]) 0) w = .ok (.func (.func 68) #[] #[]) w := by rfl
theorem fdMark1 (w : World) : Sem.run Tryz.prog (Instr.field 63 (.agg #[.func (.func 65) #[] #[], .func (.func 66) #[] #[], .func (.func 67) #[] #[]]) 1) w = .ok (.func (.func 66) #[] #[]) w := by rfl
theorem fdSweep1 (w : World) : Sem.run Tryz.prog (Instr.field 63 (.agg #[.func (.func 68) #[] #[], .func (.func 69) #[] #[], .func (.func 70) #[] #[]]) 1) w = .ok (.func (.func 69) #[] #[]) w := by rfl
theorem fdMark2 (w : World) : Sem.run Tryz.prog (Instr.field 63 (.agg #[.func (.func 65) #[] #[], .func (.func 66) #[] #[], .func (.func 67) #[] #[]]) 2) w = .ok (.func (.func 67) #[] #[]) w := by rfl
theorem fdSweep2 (w : World) : Sem.run Tryz.prog (Instr.field 63 (.agg #[.func (.func 68) #[] #[], .func (.func 69) #[] #[], .func (.func 70) #[] #[]]) 2) w = .ok (.func (.func 70) #[] #[]) w := by rfl
theorem phaseOf_mark (a : Option Addr) (n c : Nat) (t r : Int) (u : Option Addr) (m d : Nat) (w : World) :
    Calls Tryz.prog 41 #[hpV (.slice a n c) 0 t r (.slice u m d)] w fun e w' => e = .returned (.agg #[.func (.func 65) #[] #[], .func (.func 66) #[] #[], .func (.func 67) #[] #[]]) ∧ Below w.heap.size w w' := by
  have hix := ixMark
  go_enter Tryz.func41, Tryz.ntmps41
  go_wp2
  refine bodyPost_ret (v := (.agg #[.func (.func 65) #[] #[], .func (.func 66) #[] #[], .func (.func 67) #[] #[]])) (by simp [results, go_sem]) rfl ⟨rfl, by go_grown⟩
theorem phaseOf_sweep (a : Option Addr) (n c : Nat) (t r : Int) (u : Option Addr) (m d : Nat) (w : World) :
    Calls Tryz.prog 41 #[hpV (.slice a n c) 1 t r (.slice u m d)] w fun e w' => e = .returned (.agg #[.func (.func 68) #[] #[], .func (.func 69) #[] #[], .func (.func 70) #[] #[]]) ∧ Below w.heap.size w w' := by
  have hix := ixSweep
  go_enter Tryz.func41, Tryz.ntmps41
  go_wp2
  refine bodyPost_ret (v := (.agg #[.func (.func 68) #[] #[], .func (.func 69) #[] #[], .func (.func 70) #[] #[]])) (by simp [results, go_sem]) rfl ⟨rfl, by go_grown⟩
/-- Is a heap right? -/
def heapOk (os : List Ob) (p t r : Int) (xs : List Int) : Bool := arenaOk os && (inB p 0 1 && (rightB p t xs && inB r 0 1000000))
set_option maxHeartbeats 4000000 in
theorem implHeapOk_mark (a : Value) (t r : Int) (g : Value) (os : List Ob) (xs : List Int) (w : World) (ha : IsArena w a os) (hx : IsInts w g xs) (hl : os.length ≤ 1048576) (hs : Small8 os) (hn : xs.length ≤ 1048576) (h1 : arenaOk os = true) :
    Calls Tryz.prog 29 #[hpV a 0 t r g] w fun e w' => e = .returned (.bool (rightB 0 t xs && inB r 0 1000000)) ∧ Below w.heap.size w w' := by
  have CA : Hid (∀ w', Below w.heap.size w w' → _) := fun w' (hb : Below w.heap.size w w') => implArenaOk_any a os w' (ha.on hb) hl hs
  rw [h1] at CA
  have CB := fun w => fromTo_b 0 0 1 w
  rw [show inB 0 0 1 = true from rfl] at CB
  have CR : Hid (∀ w', Below w.heap.size w w' → w'.heap[w.heap.size]? = some (boxH a 0 t r g) → _) := fun w' (hb : Below w.heap.size w w') (hc : w'.heap[w.heap.size]? = some (boxH a 0 t r g)) => markRight_any w.heap.size a 0 t r g xs w' hc (hx.on hb) hn
  have CT := fun w => isTime_b r w
  have HV : Hid ((w.alloc (boxH a 0 t r g)).heap[w.heap.size]? = some (boxH a 0 t r g)) := heap_alloc_new w _
  have CP := fun w (a : Option Addr) (n c : Nat) (u : Option Addr) (m d : Nat) => phaseOf_mark a n c t r u m d w
  have hfd := fdMark0
  obtain ⟨aa, ca, rfl, _, _⟩ := ha
  obtain ⟨ag, cg, rfl, _, _⟩ := hx
  clear hl hs hn h1
  have ER : rightB 0 t xs = (decide (t = 0) && greyB xs) := by unfold rightB; simp
  rw [ER]
  clear ER
  generalize (decide (t = 0) && greyB xs) = o at CR ⊢
  generalize inB r 0 1000000 = q at CT ⊢
  cases o with
  | false =>
    clear CT
    go_enter Tryz.func29, Tryz.ntmps29
    go_wp2_with fail
    refine (CA.out _ (by go_grown)).mono ?_
    rintro e w1 ⟨rfl, hb1⟩
    have HV1 := hid_of (keep HV.out hb1)
    obtain ⟨hc1, hf1⟩ := bcell hb1
    have HB1 : Hid (Below w.heap.size w w1) := below_more (by go_grown) hb1
    have y10 : w.heap.size < w1.heap.size := lt_of_block HV1.out
    clear hb1 CA HV
    go_wp2_with fail
    refine (CB _).mono ?_
    rintro e w2 ⟨rfl, rfl⟩
    clear CB
    go_wp2_with fail
    refine (CP _ _ _ _ _ _ _).mono ?_
    rintro e w3 ⟨rfl, hb3⟩
    have HV3 := hid_of (keep HV1.out hb3)
    obtain ⟨hc3, hf3⟩ := bcell hb3
    have HB3 : Hid (Below w.heap.size w w3) := below_more HB1.out hb3
    have y30 : w.heap.size < w3.heap.size := lt_of_block HV3.out
    clear hb3 CP HV1
    go_wp2_with fail
    refine (CR.out _ HB3.out HV3.out).mono ?_
    rintro e w4 ⟨rfl, hb4⟩
    have HB4 : Hid (Below w.heap.size w w4) := below_more HB3.out hb4
    clear hb4 CR HV3 hc1 hf1 hc3 hf3 HB3 HB1
    go_wp2
    go_ret
    exact ⟨rfl, HB4.out⟩
  | true =>
    go_enter Tryz.func29, Tryz.ntmps29
    go_wp2_with fail
    refine (CA.out _ (by go_grown)).mono ?_
    rintro e w1 ⟨rfl, hb1⟩
    have HV1 := hid_of (keep HV.out hb1)
    obtain ⟨hc1, hf1⟩ := bcell hb1
    have HB1 : Hid (Below w.heap.size w w1) := below_more (by go_grown) hb1
    have y10 : w.heap.size < w1.heap.size := lt_of_block HV1.out
    clear hb1 CA HV
    go_wp2_with fail
    refine (CB _).mono ?_
    rintro e w2 ⟨rfl, rfl⟩
    clear CB
    go_wp2_with fail
    refine (CP _ _ _ _ _ _ _).mono ?_
    rintro e w3 ⟨rfl, hb3⟩
    have HV3 := hid_of (keep HV1.out hb3)
    obtain ⟨hc3, hf3⟩ := bcell hb3
    have HB3 : Hid (Below w.heap.size w w3) := below_more HB1.out hb3
    have y30 : w.heap.size < w3.heap.size := lt_of_block HV3.out
    clear hb3 CP HV1
    go_wp2_with fail
    refine (CR.out _ HB3.out HV3.out).mono ?_
    rintro e w4 ⟨rfl, hb4⟩
    have HV4 := hid_of (keep HV3.out hb4)
    obtain ⟨hc4, hf4⟩ := bcell hb4
    have HB4 : Hid (Below w.heap.size w w4) := below_more HB3.out hb4
    have y40 : w.heap.size < w4.heap.size := lt_of_block HV4.out
    have k3 : w4.cell? ⟨w.heap.size, 3, none⟩ = some (.int .i64 r) := by have e := HV4.out; simp [World.cell?, e]
    clear hb4 CR HV3 hc1 hf1 hc3 hf3 HB3 HB1 HV4 hc4 hf4
    go_wp2_with fail
    refine (CT _).mono ?_
    rintro e w5 ⟨rfl, rfl⟩
    go_wp2
    go_ret
    exact ⟨by cases q <;> rfl, HB4.out⟩
set_option maxHeartbeats 4000000 in
theorem implHeapOk_sweep (a : Value) (t r : Int) (g : Value) (os : List Ob) (xs : List Int) (w : World) (ha : IsArena w a os) (hx : IsInts w g xs) (hl : os.length ≤ 1048576) (hs : Small8 os) (hn : xs.length ≤ 1048576) (h1 : arenaOk os = true) :
    Calls Tryz.prog 29 #[hpV a 1 t r g] w fun e w' => e = .returned (.bool (rightB 1 t xs && inB r 0 1000000)) ∧ Below w.heap.size w w' := by
  have CA : Hid (∀ w', Below w.heap.size w w' → _) := fun w' (hb : Below w.heap.size w w') => implArenaOk_any a os w' (ha.on hb) hl hs
  rw [h1] at CA
  have CB := fun w => fromTo_b 1 0 1 w
  rw [show inB 1 0 1 = true from rfl] at CB
  have CR : Hid (∀ w', Below w.heap.size w w' → w'.heap[w.heap.size]? = some (boxH a 1 t r g) → _) := fun w' (hb : Below w.heap.size w w') (hc : w'.heap[w.heap.size]? = some (boxH a 1 t r g)) => sweepRight_any w.heap.size a 1 t r g xs w' hc (hx.on hb)
  have CT := fun w => isTime_b r w
  have HV : Hid ((w.alloc (boxH a 1 t r g)).heap[w.heap.size]? = some (boxH a 1 t r g)) := heap_alloc_new w _
  have CP := fun w (a : Option Addr) (n c : Nat) (u : Option Addr) (m d : Nat) => phaseOf_sweep a n c t r u m d w
  have hfd := fdSweep0
  obtain ⟨aa, ca, rfl, _, _⟩ := ha
  obtain ⟨ag, cg, rfl, _, _⟩ := hx
  clear hl hs hn h1
  have ER : rightB 1 t xs = (inB t 0 9 && decide (xs.length = 0)) := by unfold rightB; simp
  rw [ER]
  clear ER
  generalize (inB t 0 9 && decide (xs.length = 0)) = o at CR ⊢
  generalize inB r 0 1000000 = q at CT ⊢
  cases o with
  | false =>
    clear CT
    go_enter Tryz.func29, Tryz.ntmps29
    go_wp2_with fail
    refine (CA.out _ (by go_grown)).mono ?_
    rintro e w1 ⟨rfl, hb1⟩
    have HV1 := hid_of (keep HV.out hb1)
    obtain ⟨hc1, hf1⟩ := bcell hb1
    have HB1 : Hid (Below w.heap.size w w1) := below_more (by go_grown) hb1
    have y10 : w.heap.size < w1.heap.size := lt_of_block HV1.out
    clear hb1 CA HV
    go_wp2_with fail
    refine (CB _).mono ?_
    rintro e w2 ⟨rfl, rfl⟩
    clear CB
    go_wp2_with fail
    refine (CP _ _ _ _ _ _ _).mono ?_
    rintro e w3 ⟨rfl, hb3⟩
    have HV3 := hid_of (keep HV1.out hb3)
    obtain ⟨hc3, hf3⟩ := bcell hb3
    have HB3 : Hid (Below w.heap.size w w3) := below_more HB1.out hb3
    have y30 : w.heap.size < w3.heap.size := lt_of_block HV3.out
    clear hb3 CP HV1
    go_wp2_with fail
    refine (CR.out _ HB3.out HV3.out).mono ?_
    rintro e w4 ⟨rfl, hb4⟩
    have HB4 : Hid (Below w.heap.size w w4) := below_more HB3.out hb4
    clear hb4 CR HV3 hc1 hf1 hc3 hf3 HB3 HB1
    go_wp2
    go_ret
    exact ⟨rfl, HB4.out⟩
  | true =>
    go_enter Tryz.func29, Tryz.ntmps29
    go_wp2_with fail
    refine (CA.out _ (by go_grown)).mono ?_
    rintro e w1 ⟨rfl, hb1⟩
    have HV1 := hid_of (keep HV.out hb1)
    obtain ⟨hc1, hf1⟩ := bcell hb1
    have HB1 : Hid (Below w.heap.size w w1) := below_more (by go_grown) hb1
    have y10 : w.heap.size < w1.heap.size := lt_of_block HV1.out
    clear hb1 CA HV
    go_wp2_with fail
    refine (CB _).mono ?_
    rintro e w2 ⟨rfl, rfl⟩
    clear CB
    go_wp2_with fail
    refine (CP _ _ _ _ _ _ _).mono ?_
    rintro e w3 ⟨rfl, hb3⟩
    have HV3 := hid_of (keep HV1.out hb3)
    obtain ⟨hc3, hf3⟩ := bcell hb3
    have HB3 : Hid (Below w.heap.size w w3) := below_more HB1.out hb3
    have y30 : w.heap.size < w3.heap.size := lt_of_block HV3.out
    clear hb3 CP HV1
    go_wp2_with fail
    refine (CR.out _ HB3.out HV3.out).mono ?_
    rintro e w4 ⟨rfl, hb4⟩
    have HV4 := hid_of (keep HV3.out hb4)
    obtain ⟨hc4, hf4⟩ := bcell hb4
    have HB4 : Hid (Below w.heap.size w w4) := below_more HB3.out hb4
    have y40 : w.heap.size < w4.heap.size := lt_of_block HV4.out
    have k3 : w4.cell? ⟨w.heap.size, 3, none⟩ = some (.int .i64 r) := by have e := HV4.out; simp [World.cell?, e]
    clear hb4 CR HV3 hc1 hf1 hc3 hf3 HB3 HB1 HV4 hc4 hf4
    go_wp2_with fail
    refine (CT _).mono ?_
    rintro e w5 ⟨rfl, rfl⟩
    go_wp2
    go_ret
    exact ⟨by cases q <;> rfl, HB4.out⟩
theorem implHeapOk_any (a : Value) (p t r : Int) (g : Value) (os : List Ob) (xs : List Int) (w : World) (ha : IsArena w a os) (hx : IsInts w g xs) (hl : os.length ≤ 1048576) (hs : Small8 os) (hn : xs.length ≤ 1048576) :
    Calls Tryz.prog 29 #[hpV a p t r g] w fun e w' => e = .returned (.bool (heapOk os p t r xs)) ∧ Below w.heap.size w w' := by
  have CA : Hid (∀ w', Below w.heap.size w w' → _) := fun w' (hb : Below w.heap.size w w') => implArenaOk_any a os w' (ha.on hb) hl hs
  cases h1 : arenaOk os with
  | false =>
    have e : heapOk os p t r xs = false := by unfold heapOk; rw [h1]; rfl
    rw [e]
    rw [h1] at CA
    obtain ⟨aa, ca, rfl, _, _⟩ := ha
    obtain ⟨ag, cg, rfl, _, _⟩ := hx
    clear hl hs hn h1 e
    go_enter Tryz.func29, Tryz.ntmps29
    go_wp2_with fail
    refine (CA.out _ (by go_grown)).mono ?_
    rintro e w1 ⟨rfl, hb1⟩
    have HB1 : Hid (Below w.heap.size w w1) := below_more (by go_grown) hb1
    clear hb1 CA
    go_wp2
    go_ret
    exact ⟨rfl, HB1.out⟩
  | true =>
    by_cases hp : inB p 0 1 = true
    · have hq := inB_true hp
      have e : heapOk os p t r xs = (rightB p t xs && inB r 0 1000000) := by unfold heapOk; rw [h1, hp]; rfl
      rw [e]
      by_cases hp0 : p = 0
      · subst hp0
        exact implHeapOk_mark a t r g os xs w ha hx hl hs hn h1
      · obtain rfl : p = 1 := by omega
        exact implHeapOk_sweep a t r g os xs w ha hx hl hs hn h1
    · have hp' : inB p 0 1 = false := by simpa using hp
      have e : heapOk os p t r xs = false := by unfold heapOk; rw [hp']; simp
      rw [e]
      have CB := fun w => fromTo_b p 0 1 w
      rw [hp'] at CB
      rw [h1] at CA
      have HV : Hid ((w.alloc (boxH a p t r g)).heap[w.heap.size]? = some (boxH a p t r g)) := heap_alloc_new w _
      obtain ⟨aa, ca, rfl, _, _⟩ := ha
      obtain ⟨ag, cg, rfl, _, _⟩ := hx
      clear hl hs hn h1 e hp hp'
      go_enter Tryz.func29, Tryz.ntmps29
      go_wp2_with fail
      refine (CA.out _ (by go_grown)).mono ?_
      rintro e w1 ⟨rfl, hb1⟩
      have HV1 := hid_of (keep HV.out hb1)
      obtain ⟨hc1, hf1⟩ := bcell hb1
      have HB1 : Hid (Below w.heap.size w w1) := below_more (by go_grown) hb1
      have y10 : w.heap.size < w1.heap.size := lt_of_block HV1.out
      clear hb1 CA HV
      go_wp2_with fail
      refine (CB _).mono ?_
      rintro e w2 ⟨rfl, rfl⟩
      go_wp2
      go_ret
      exact ⟨rfl, HB1.out⟩
end Go.Proofs.YtbdljoldblpffaaGreat
namespace Go.Proofs.YtbdljoldblpffaaGreat
open Go.RowKit
set_option linter.unusedVariables false
set_option maxRecDepth 100000

theorem grey_no1 {xs : List Int} {k : Nat} (hk : k < xs.length) (h : inB (xs.getD k 0) 0 9 = false) : greyB xs = false := by
  unfold greyB
  have : xs.all (fun x => inB x 0 9) = false := by
    cases e : xs.all (fun x => inB x 0 9) with
    | false => rfl
    | true =>
      have := List.all_eq_true.1 e _ (all_memI hk)
      rw [h] at this
      exact absurd this (by simp)
  rw [this]; rfl
theorem grey_no2 {xs : List Int} {k : Nat} (hk : k < xs.length) (h : hasI (xs.take k) (xs.getD k 0) = true) : greyB xs = false := by
  unfold greyB; rw [distTo_no hk h]; simp
/-- The first k are right. -/
def GreyTo (xs : List Int) (k : Nat) : Prop := (∀ j, j < k → inB (xs.getD j 0) 0 9 = true) ∧ distTo xs k = true
theorem greyTo_next {xs : List Int} {k : Nat} (h : GreyTo xs k) (h1 : inB (xs.getD k 0) 0 9 = true) (h2 : hasI (xs.take k) (xs.getD k 0) = false) : GreyTo xs (k + 1) :=
  ⟨fun j hj => by
    by_cases e : j = k
    · rw [e]; exact h1
    · exact h.1 j (by omega), by rw [distTo_next, h.2, h2]; rfl⟩
theorem greyTo_end {xs : List Int} (h : GreyTo xs xs.length) : greyB xs = true := by
  unfold greyB
  rw [h.2, Bool.and_true]
  refine List.all_eq_true.2 fun x hx => ?_
  obtain ⟨j, hj, rfl⟩ := List.getElem_of_mem hx
  have := h.1 j hj
  simpa [List.getD, hj] using this
set_option maxHeartbeats 8000000 in
theorem sHeap_dead (ag : Option Addr) (cg : Nat) (a : Value) (p t r : Int) (os : List Ob) (xs : List Int) (w : World) (ha : IsArena w a os) (hx : IsInts w (.slice ag xs.length cg) xs) (hl : os.length ≤ 1048576) (hs : Small8 os) (hf : AllFit os) (hn : xs.length ≤ 1048576) (h1 : arenaOk os = false) :
    Calls Tryz.prog 23 #[hpV a p t r (.slice ag xs.length cg)] w fun e w' => e = .returned (.bool false) ∧ Below w.heap.size w w' := by
  have CA : Hid (∀ w', Below w.heap.size w w' → _) := fun w' (hb : Below w.heap.size w w') => specArenaOk_any a os w' (ha.on hb) hl hs hf
  have HV : Hid (((w.alloc (boxH a p t r (.slice ag xs.length cg))).alloc (boxG p t r (.slice ag xs.length cg))).heap[w.heap.size + 1]? = some (boxG p t r (.slice ag xs.length cg))) := by
    show _ = _
    have e := heap_alloc_new (w.alloc (boxH a p t r (.slice ag xs.length cg))) (boxG p t r (.slice ag xs.length cg))
    simpa using e
  have HX : Hid (∀ w', Below w.heap.size w w' → IsInts w' (.slice ag xs.length cg) xs) := fun w' hb => hx.on hb
  have hcap : xs.length ≤ cg := by obtain ⟨_, _, hv, hc, _⟩ := id hx; cases hv; exact hc
  obtain ⟨aa, ca, rfl, _, _⟩ := ha
  rw [h1] at CA
  clear h1 hl hs hf hn
  go_enter Tryz.func23, Tryz.ntmps23
  go_wp2_with fail
  refine (CA.out _ (by go_grown)).mono ?_
  rintro e w1 ⟨rfl, hb1⟩
  have HV1 := hid_of (keep HV.out hb1)
  have HB1 : Hid (Below w.heap.size w w1) := below_more (by go_grown) hb1
  have q0 : w1.cell? ⟨w.heap.size + 1, 0, none⟩ = some (.int .i64 p) := by have e := HV1.out; simp [World.cell?, e]
  have q1 : w1.cell? ⟨w.heap.size + 1, 1, none⟩ = some (.int .i64 t) := by have e := HV1.out; simp [World.cell?, e]
  have q2 : w1.cell? ⟨w.heap.size + 1, 2, none⟩ = some (.int .i64 r) := by have e := HV1.out; simp [World.cell?, e]
  have q3 : w1.cell? ⟨w.heap.size + 1, 3, none⟩ = some (.slice ag xs.length cg) := by have e := HV1.out; simp [World.cell?, e]
  clear hb1 CA HV
  go_wp2
  go_ret
  exact ⟨rfl, HB1.out⟩
set_option maxHeartbeats 8000000 in
theorem sHeap_phase (ag : Option Addr) (cg : Nat) (a : Value) (p t r : Int) (os : List Ob) (xs : List Int) (w : World) (ha : IsArena w a os) (hx : IsInts w (.slice ag xs.length cg) xs) (hl : os.length ≤ 1048576) (hs : Small8 os) (hf : AllFit os) (hn : xs.length ≤ 1048576) (h1 : arenaOk os = true) (h2 : inB p 0 1 = false) :
    Calls Tryz.prog 23 #[hpV a p t r (.slice ag xs.length cg)] w fun e w' => e = .returned (.bool false) ∧ Below w.heap.size w w' := by
  have CA : Hid (∀ w', Below w.heap.size w w' → _) := fun w' (hb : Below w.heap.size w w') => specArenaOk_any a os w' (ha.on hb) hl hs hf
  have HV : Hid (((w.alloc (boxH a p t r (.slice ag xs.length cg))).alloc (boxG p t r (.slice ag xs.length cg))).heap[w.heap.size + 1]? = some (boxG p t r (.slice ag xs.length cg))) := by
    show _ = _
    have e := heap_alloc_new (w.alloc (boxH a p t r (.slice ag xs.length cg))) (boxG p t r (.slice ag xs.length cg))
    simpa using e
  have HX : Hid (∀ w', Below w.heap.size w w' → IsInts w' (.slice ag xs.length cg) xs) := fun w' hb => hx.on hb
  have hcap : xs.length ≤ cg := by obtain ⟨_, _, hv, hc, _⟩ := id hx; cases hv; exact hc
  obtain ⟨aa, ca, rfl, _, _⟩ := ha
  rw [h1] at CA
  have CB := fun w => l1In_b p 0 1 w
  rw [h2] at CB
  clear h1 h2 hl hs hf hn
  go_enter Tryz.func23, Tryz.ntmps23
  go_wp2_with fail
  refine (CA.out _ (by go_grown)).mono ?_
  rintro e w1 ⟨rfl, hb1⟩
  have HV1 := hid_of (keep HV.out hb1)
  have HB1 : Hid (Below w.heap.size w w1) := below_more (by go_grown) hb1
  have q0 : w1.cell? ⟨w.heap.size + 1, 0, none⟩ = some (.int .i64 p) := by have e := HV1.out; simp [World.cell?, e]
  have q1 : w1.cell? ⟨w.heap.size + 1, 1, none⟩ = some (.int .i64 t) := by have e := HV1.out; simp [World.cell?, e]
  have q2 : w1.cell? ⟨w.heap.size + 1, 2, none⟩ = some (.int .i64 r) := by have e := HV1.out; simp [World.cell?, e]
  have q3 : w1.cell? ⟨w.heap.size + 1, 3, none⟩ = some (.slice ag xs.length cg) := by have e := HV1.out; simp [World.cell?, e]
  clear hb1 CA HV
  go_wp2_with fail
  refine (CB _).mono ?_
  rintro e w2 ⟨rfl, rfl⟩
  clear CB
  go_wp2
  go_ret
  exact ⟨rfl, HB1.out⟩
set_option maxHeartbeats 8000000 in
theorem sHeap_round (ag : Option Addr) (cg : Nat) (a : Value) (p t r : Int) (os : List Ob) (xs : List Int) (w : World) (ha : IsArena w a os) (hx : IsInts w (.slice ag xs.length cg) xs) (hl : os.length ≤ 1048576) (hs : Small8 os) (hf : AllFit os) (hn : xs.length ≤ 1048576) (h1 : arenaOk os = true) (h2 : inB p 0 1 = true) (h3 : inB r 0 1000000 = false) :
    Calls Tryz.prog 23 #[hpV a p t r (.slice ag xs.length cg)] w fun e w' => e = .returned (.bool false) ∧ Below w.heap.size w w' := by
  have CA : Hid (∀ w', Below w.heap.size w w' → _) := fun w' (hb : Below w.heap.size w w') => specArenaOk_any a os w' (ha.on hb) hl hs hf
  have HV : Hid (((w.alloc (boxH a p t r (.slice ag xs.length cg))).alloc (boxG p t r (.slice ag xs.length cg))).heap[w.heap.size + 1]? = some (boxG p t r (.slice ag xs.length cg))) := by
    show _ = _
    have e := heap_alloc_new (w.alloc (boxH a p t r (.slice ag xs.length cg))) (boxG p t r (.slice ag xs.length cg))
    simpa using e
  have HX : Hid (∀ w', Below w.heap.size w w' → IsInts w' (.slice ag xs.length cg) xs) := fun w' hb => hx.on hb
  have hcap : xs.length ≤ cg := by obtain ⟨_, _, hv, hc, _⟩ := id hx; cases hv; exact hc
  obtain ⟨aa, ca, rfl, _, _⟩ := ha
  rw [h1] at CA
  have CB := fun w => l1In_b p 0 1 w
  have CR := fun w => l1In_b r 0 1000000 w
  rw [h2] at CB
  rw [h3] at CR
  clear h1 h2 h3 hl hs hf hn
  go_enter Tryz.func23, Tryz.ntmps23
  go_wp2_with fail
  refine (CA.out _ (by go_grown)).mono ?_
  rintro e w1 ⟨rfl, hb1⟩
  have HV1 := hid_of (keep HV.out hb1)
  have HB1 : Hid (Below w.heap.size w w1) := below_more (by go_grown) hb1
  have q0 : w1.cell? ⟨w.heap.size + 1, 0, none⟩ = some (.int .i64 p) := by have e := HV1.out; simp [World.cell?, e]
  have q1 : w1.cell? ⟨w.heap.size + 1, 1, none⟩ = some (.int .i64 t) := by have e := HV1.out; simp [World.cell?, e]
  have q2 : w1.cell? ⟨w.heap.size + 1, 2, none⟩ = some (.int .i64 r) := by have e := HV1.out; simp [World.cell?, e]
  have q3 : w1.cell? ⟨w.heap.size + 1, 3, none⟩ = some (.slice ag xs.length cg) := by have e := HV1.out; simp [World.cell?, e]
  clear hb1 CA HV
  go_wp2_with fail
  refine (CB _).mono ?_
  rintro e w2 ⟨rfl, rfl⟩
  clear CB
  go_wp2_with fail
  refine (CR _).mono ?_
  rintro e w2 ⟨rfl, rfl⟩
  clear CR
  go_wp2
  go_ret
  exact ⟨rfl, HB1.out⟩
set_option maxHeartbeats 8000000 in
theorem sHeap_at (ag : Option Addr) (cg : Nat) (a : Value) (p t r : Int) (os : List Ob) (xs : List Int) (w : World) (ha : IsArena w a os) (hx : IsInts w (.slice ag xs.length cg) xs) (hl : os.length ≤ 1048576) (hs : Small8 os) (hf : AllFit os) (hn : xs.length ≤ 1048576) (h1 : arenaOk os = true) (h2 : inB p 0 1 = true) (h3 : inB r 0 1000000 = true) (h4 : p = 0) (h5 : t ≠ 0) :
    Calls Tryz.prog 23 #[hpV a p t r (.slice ag xs.length cg)] w fun e w' => e = .returned (.bool false) ∧ Below w.heap.size w w' := by
  have CA : Hid (∀ w', Below w.heap.size w w' → _) := fun w' (hb : Below w.heap.size w w') => specArenaOk_any a os w' (ha.on hb) hl hs hf
  have HV : Hid (((w.alloc (boxH a p t r (.slice ag xs.length cg))).alloc (boxG p t r (.slice ag xs.length cg))).heap[w.heap.size + 1]? = some (boxG p t r (.slice ag xs.length cg))) := by
    show _ = _
    have e := heap_alloc_new (w.alloc (boxH a p t r (.slice ag xs.length cg))) (boxG p t r (.slice ag xs.length cg))
    simpa using e
  have HX : Hid (∀ w', Below w.heap.size w w' → IsInts w' (.slice ag xs.length cg) xs) := fun w' hb => hx.on hb
  have hcap : xs.length ≤ cg := by obtain ⟨_, _, hv, hc, _⟩ := id hx; cases hv; exact hc
  obtain ⟨aa, ca, rfl, _, _⟩ := ha
  rw [h1] at CA
  have CB := fun w => l1In_b p 0 1 w
  have CR := fun w => l1In_b r 0 1000000 w
  rw [h2] at CB
  rw [h3] at CR
  subst h4
  have n5 : (t != 0) = true := by simp [h5]
  clear h1 h2 h3 hl hs hf hn
  go_enter Tryz.func23, Tryz.ntmps23
  go_wp2_with fail
  refine (CA.out _ (by go_grown)).mono ?_
  rintro e w1 ⟨rfl, hb1⟩
  have HV1 := hid_of (keep HV.out hb1)
  have HB1 : Hid (Below w.heap.size w w1) := below_more (by go_grown) hb1
  have q0 : w1.cell? ⟨w.heap.size + 1, 0, none⟩ = some (.int .i64 0) := by have e := HV1.out; simp [World.cell?, e]
  have q1 : w1.cell? ⟨w.heap.size + 1, 1, none⟩ = some (.int .i64 t) := by have e := HV1.out; simp [World.cell?, e]
  have q2 : w1.cell? ⟨w.heap.size + 1, 2, none⟩ = some (.int .i64 r) := by have e := HV1.out; simp [World.cell?, e]
  have q3 : w1.cell? ⟨w.heap.size + 1, 3, none⟩ = some (.slice ag xs.length cg) := by have e := HV1.out; simp [World.cell?, e]
  clear hb1 CA HV
  go_wp2_with fail
  refine (CB _).mono ?_
  rintro e w2 ⟨rfl, rfl⟩
  clear CB
  go_wp2_with fail
  refine (CR _).mono ?_
  rintro e w2 ⟨rfl, rfl⟩
  clear CR
  go_wp2
  go_ret
  exact ⟨rfl, HB1.out⟩
set_option maxHeartbeats 8000000 in
theorem sHeap_mark (ag : Option Addr) (cg : Nat) (a : Value) (p t r : Int) (os : List Ob) (xs : List Int) (w : World) (ha : IsArena w a os) (hx : IsInts w (.slice ag xs.length cg) xs) (hl : os.length ≤ 1048576) (hs : Small8 os) (hf : AllFit os) (hn : xs.length ≤ 1048576) (h1 : arenaOk os = true) (h2 : inB p 0 1 = true) (h3 : inB r 0 1000000 = true) (h4 : p = 0) (h5 : t = 0) :
    Calls Tryz.prog 23 #[hpV a p t r (.slice ag xs.length cg)] w fun e w' => e = .returned (.bool (greyB xs)) ∧ Below w.heap.size w w' := by
  have CA : Hid (∀ w', Below w.heap.size w w' → _) := fun w' (hb : Below w.heap.size w w') => specArenaOk_any a os w' (ha.on hb) hl hs hf
  have HV : Hid (((w.alloc (boxH a p t r (.slice ag xs.length cg))).alloc (boxG p t r (.slice ag xs.length cg))).heap[w.heap.size + 1]? = some (boxG p t r (.slice ag xs.length cg))) := by
    show _ = _
    have e := heap_alloc_new (w.alloc (boxH a p t r (.slice ag xs.length cg))) (boxG p t r (.slice ag xs.length cg))
    simpa using e
  have HX : Hid (∀ w', Below w.heap.size w w' → IsInts w' (.slice ag xs.length cg) xs) := fun w' hb => hx.on hb
  have hcap : xs.length ≤ cg := by obtain ⟨_, _, hv, hc, _⟩ := id hx; cases hv; exact hc
  obtain ⟨aa, ca, rfl, _, _⟩ := ha
  rw [h1] at CA
  have CB := fun w => l1In_b p 0 1 w
  have CR := fun w => l1In_b r 0 1000000 w
  rw [h2] at CB
  rw [h3] at CR
  subst h4
  subst h5
  clear h1 h2 h3 hl hs hf
  go_enter Tryz.func23, Tryz.ntmps23
  go_wp2_with fail
  refine (CA.out _ (by go_grown)).mono ?_
  rintro e w1 ⟨rfl, hb1⟩
  have HV1 := hid_of (keep HV.out hb1)
  have HB1 : Hid (Below w.heap.size w w1) := below_more (by go_grown) hb1
  have q0 : w1.cell? ⟨w.heap.size + 1, 0, none⟩ = some (.int .i64 0) := by have e := HV1.out; simp [World.cell?, e]
  have q1 : w1.cell? ⟨w.heap.size + 1, 1, none⟩ = some (.int .i64 0) := by have e := HV1.out; simp [World.cell?, e]
  have q2 : w1.cell? ⟨w.heap.size + 1, 2, none⟩ = some (.int .i64 r) := by have e := HV1.out; simp [World.cell?, e]
  have q3 : w1.cell? ⟨w.heap.size + 1, 3, none⟩ = some (.slice ag xs.length cg) := by have e := HV1.out; simp [World.cell?, e]
  clear hb1 CA HV
  go_wp2_with fail
  refine (CB _).mono ?_
  rintro e w2 ⟨rfl, rfl⟩
  clear CB
  go_wp2_with fail
  refine (CR _).mono ?_
  rintro e w2 ⟨rfl, rfl⟩
  clear CR
  go_wp2
  go_loopw [4] (fun i wr => ∃ k : Nat, k ≤ xs.length ∧ i = .int .i64 k ∧ Hid (GreyTo xs k) ∧ Hid (Below w1.heap.size w1 wr)) (fun i _ => xs.length - (intOf i).toNat)
  case atStart => exact ⟨0, Nat.zero_le _, rfl, ⟨fun j hj => absurd hj (Nat.not_lt_zero _), rfl⟩, Below.refl _ _⟩
  case round =>
    obtain ⟨k, hk, rfl, hd, hbr⟩ := hrel
    have HBR : Hid (Below w.heap.size w wr) := below_more HB1.out hbr.out
    have hG := keep HV1.out hbr.out
    have k3 : wr.cell? ⟨w.heap.size + 1, 3, none⟩ = some (.slice ag xs.length cg) := by simp [World.cell?, hG]
    clear hG q0 q1 q2 q3
    by_cases hlt : k < xs.length
    · have hi := HX.out _ HBR.out
      obtain ⟨pp, rfl, hc⟩ : ∃ p, ag = some p ∧ wr.cell? (p.add k) = some (.int .i64 (xs.getD k 0)) := by
        obtain ⟨a', cap', hv, _, hx⟩ := hi
        cases hv
        exact hx k hlt
      have C2 : Hid (∀ n, Calls Tryz.prog 43 #[.slice (some pp) k cg, .int .i64 (xs.getD k 0)] (wr.drewN n) fun e w' => e = .returned (.bool (hasI (xs.take k) (xs.getD k 0))) ∧ w' = wr.drewN n) := fun n => (specHas_any (.slice (some pp) k cg) (xs.take k) (xs.getD k 0) (wr.drewN n) (isInts_take (hi.on (below_drewN (Below.refl _ _) n)) hk) (by rw [List.length_take]; omega)).mono fun e w' h => ⟨h.1, h.2.symm⟩
      have C1 : Hid (∀ w', Calls Tryz.prog 24 #[.int .i64 (xs.getD k 0)] w' fun e w'' => e = .returned (.bool (inB (xs.getD k 0) 0 9)) ∧ w'' = w') := fun w' => (specSlot_b (xs.getD k 0) w').mono fun e w'' h => ⟨h.1, h.2.symm⟩
      have HN1 : Hid (inB (xs.getD k 0) 0 9 = false → greyB xs = false) := fun h => grey_no1 hlt h
      have HN2 : Hid (hasI (xs.take k) (xs.getD k 0) = true → greyB xs = false) := fun h => grey_no2 hlt h
      have HG2 : Hid (inB (xs.getD k 0) 0 9 = true → hasI (xs.take k) (xs.getD k 0) = false → GreyTo xs (k + 1)) := fun h1 h2 => greyTo_next hd.out h1 h2
      generalize hasI (xs.take k) (xs.getD k 0) = o2 at C2 HN2 HG2
      generalize inB (xs.getD k 0) 0 9 = o1 at C1 HN1 HG2
      generalize xs.getD k 0 = x at hc C1 C2
      clear hi hd
      cases o1 with
      | false =>
        have HE : Hid (greyB xs = false) := HN1.out rfl
        clear HN1 HN2 HG2 C2
        go_wp2
        go_quiet ((go_at_call 24; exact Calls.quiet_of_same (C1.out _)))
        go_wp2
        go_ret
        exact ⟨by rw [HE.out]; rfl, below_drewN HBR.out _⟩
      | true =>
        cases o2 with
        | true =>
          have HE : Hid (greyB xs = false) := HN2.out rfl
          clear HN1 HN2 HG2
          go_wp2
          go_quiet ((first | (go_at_call 24; exact Calls.quiet_of_same (C1.out _)) | (go_at_call 43; exact Calls.quiet_of_same (C2.out _))))
          go_wp2
          go_ret
          exact ⟨by rw [HE.out]; rfl, below_drewN HBR.out _⟩
        | false =>
          have HE : Hid (GreyTo xs (k + 1)) := HG2.out rfl rfl
          clear HN1 HN2 HG2
          go_wp2
          go_quiet ((first | (go_at_call 24; exact Calls.quiet_of_same (C1.out _)) | (go_at_call 43; exact Calls.quiet_of_same (C2.out _))))
          go_wp2
          go_roundw
          case rel => exact ⟨k + 1, by omega, by go_num, HE, below_drewN hbr.out _⟩
          case measure => simp [intOf]; omega
    · obtain rfl : k = xs.length := by omega
      go_wp2
      go_ret
      exact ⟨by rw [greyTo_end hd.out]; rfl, HBR.out⟩
set_option maxHeartbeats 8000000 in
theorem sHeap_slot (ag : Option Addr) (cg : Nat) (a : Value) (p t r : Int) (os : List Ob) (xs : List Int) (w : World) (ha : IsArena w a os) (hx : IsInts w (.slice ag xs.length cg) xs) (hl : os.length ≤ 1048576) (hs : Small8 os) (hf : AllFit os) (hn : xs.length ≤ 1048576) (h1 : arenaOk os = true) (h2 : inB p 0 1 = true) (h3 : inB r 0 1000000 = true) (h4 : p = 1) (h5 : inB t 0 9 = false) :
    Calls Tryz.prog 23 #[hpV a p t r (.slice ag xs.length cg)] w fun e w' => e = .returned (.bool false) ∧ Below w.heap.size w w' := by
  have CA : Hid (∀ w', Below w.heap.size w w' → _) := fun w' (hb : Below w.heap.size w w') => specArenaOk_any a os w' (ha.on hb) hl hs hf
  have HV : Hid (((w.alloc (boxH a p t r (.slice ag xs.length cg))).alloc (boxG p t r (.slice ag xs.length cg))).heap[w.heap.size + 1]? = some (boxG p t r (.slice ag xs.length cg))) := by
    show _ = _
    have e := heap_alloc_new (w.alloc (boxH a p t r (.slice ag xs.length cg))) (boxG p t r (.slice ag xs.length cg))
    simpa using e
  have HX : Hid (∀ w', Below w.heap.size w w' → IsInts w' (.slice ag xs.length cg) xs) := fun w' hb => hx.on hb
  have hcap : xs.length ≤ cg := by obtain ⟨_, _, hv, hc, _⟩ := id hx; cases hv; exact hc
  obtain ⟨aa, ca, rfl, _, _⟩ := ha
  rw [h1] at CA
  have CB := fun w => l1In_b p 0 1 w
  have CR := fun w => l1In_b r 0 1000000 w
  rw [h2] at CB
  rw [h3] at CR
  subst h4
  have CT := fun w => specSlot_b t w
  rw [h5] at CT
  clear h1 h2 h3 h5 hl hs hf hn
  go_enter Tryz.func23, Tryz.ntmps23
  go_wp2_with fail
  refine (CA.out _ (by go_grown)).mono ?_
  rintro e w1 ⟨rfl, hb1⟩
  have HV1 := hid_of (keep HV.out hb1)
  have HB1 : Hid (Below w.heap.size w w1) := below_more (by go_grown) hb1
  have q0 : w1.cell? ⟨w.heap.size + 1, 0, none⟩ = some (.int .i64 1) := by have e := HV1.out; simp [World.cell?, e]
  have q1 : w1.cell? ⟨w.heap.size + 1, 1, none⟩ = some (.int .i64 t) := by have e := HV1.out; simp [World.cell?, e]
  have q2 : w1.cell? ⟨w.heap.size + 1, 2, none⟩ = some (.int .i64 r) := by have e := HV1.out; simp [World.cell?, e]
  have q3 : w1.cell? ⟨w.heap.size + 1, 3, none⟩ = some (.slice ag xs.length cg) := by have e := HV1.out; simp [World.cell?, e]
  clear hb1 CA HV
  go_wp2_with fail
  refine (CB _).mono ?_
  rintro e w2 ⟨rfl, rfl⟩
  clear CB
  go_wp2_with fail
  refine (CR _).mono ?_
  rintro e w2 ⟨rfl, rfl⟩
  clear CR
  go_wp2_with fail
  refine (CT _).mono ?_
  rintro e w2 ⟨rfl, rfl⟩
  clear CT
  go_wp2
  go_ret
  exact ⟨rfl, HB1.out⟩
set_option maxHeartbeats 8000000 in
theorem sHeap_grey (ag : Option Addr) (cg : Nat) (a : Value) (p t r : Int) (os : List Ob) (xs : List Int) (w : World) (ha : IsArena w a os) (hx : IsInts w (.slice ag xs.length cg) xs) (hl : os.length ≤ 1048576) (hs : Small8 os) (hf : AllFit os) (hn : xs.length ≤ 1048576) (h1 : arenaOk os = true) (h2 : inB p 0 1 = true) (h3 : inB r 0 1000000 = true) (h4 : p = 1) (h5 : inB t 0 9 = true) (h6 : xs.length ≠ 0) :
    Calls Tryz.prog 23 #[hpV a p t r (.slice ag xs.length cg)] w fun e w' => e = .returned (.bool false) ∧ Below w.heap.size w w' := by
  have CA : Hid (∀ w', Below w.heap.size w w' → _) := fun w' (hb : Below w.heap.size w w') => specArenaOk_any a os w' (ha.on hb) hl hs hf
  have HV : Hid (((w.alloc (boxH a p t r (.slice ag xs.length cg))).alloc (boxG p t r (.slice ag xs.length cg))).heap[w.heap.size + 1]? = some (boxG p t r (.slice ag xs.length cg))) := by
    show _ = _
    have e := heap_alloc_new (w.alloc (boxH a p t r (.slice ag xs.length cg))) (boxG p t r (.slice ag xs.length cg))
    simpa using e
  have HX : Hid (∀ w', Below w.heap.size w w' → IsInts w' (.slice ag xs.length cg) xs) := fun w' hb => hx.on hb
  have hcap : xs.length ≤ cg := by obtain ⟨_, _, hv, hc, _⟩ := id hx; cases hv; exact hc
  obtain ⟨aa, ca, rfl, _, _⟩ := ha
  rw [h1] at CA
  have CB := fun w => l1In_b p 0 1 w
  have CR := fun w => l1In_b r 0 1000000 w
  rw [h2] at CB
  rw [h3] at CR
  subst h4
  have CT := fun w => specSlot_b t w
  rw [h5] at CT
  have n6 : decide ((xs.length : Int) > 0) = true := by simp; omega
  have n7 : (0 : Int) < (xs.length : Int) := by omega
  clear h1 h2 h3 h5 hl hs hf hn
  go_enter Tryz.func23, Tryz.ntmps23
  go_wp2_with fail
  refine (CA.out _ (by go_grown)).mono ?_
  rintro e w1 ⟨rfl, hb1⟩
  have HV1 := hid_of (keep HV.out hb1)
  have HB1 : Hid (Below w.heap.size w w1) := below_more (by go_grown) hb1
  have q0 : w1.cell? ⟨w.heap.size + 1, 0, none⟩ = some (.int .i64 1) := by have e := HV1.out; simp [World.cell?, e]
  have q1 : w1.cell? ⟨w.heap.size + 1, 1, none⟩ = some (.int .i64 t) := by have e := HV1.out; simp [World.cell?, e]
  have q2 : w1.cell? ⟨w.heap.size + 1, 2, none⟩ = some (.int .i64 r) := by have e := HV1.out; simp [World.cell?, e]
  have q3 : w1.cell? ⟨w.heap.size + 1, 3, none⟩ = some (.slice ag xs.length cg) := by have e := HV1.out; simp [World.cell?, e]
  clear hb1 CA HV
  go_wp2_with fail
  refine (CB _).mono ?_
  rintro e w2 ⟨rfl, rfl⟩
  clear CB
  go_wp2_with fail
  refine (CR _).mono ?_
  rintro e w2 ⟨rfl, rfl⟩
  clear CR
  go_wp2_with fail
  refine (CT _).mono ?_
  rintro e w2 ⟨rfl, rfl⟩
  clear CT
  go_wp2
  go_ret
  exact ⟨rfl, HB1.out⟩
set_option maxHeartbeats 8000000 in
theorem sHeap_sweep (ag : Option Addr) (cg : Nat) (a : Value) (p t r : Int) (os : List Ob) (xs : List Int) (w : World) (ha : IsArena w a os) (hx : IsInts w (.slice ag xs.length cg) xs) (hl : os.length ≤ 1048576) (hs : Small8 os) (hf : AllFit os) (hn : xs.length ≤ 1048576) (h1 : arenaOk os = true) (h2 : inB p 0 1 = true) (h3 : inB r 0 1000000 = true) (h4 : p = 1) (h5 : inB t 0 9 = true) (h6 : xs.length = 0) :
    Calls Tryz.prog 23 #[hpV a p t r (.slice ag xs.length cg)] w fun e w' => e = .returned (.bool true) ∧ Below w.heap.size w w' := by
  have CA : Hid (∀ w', Below w.heap.size w w' → _) := fun w' (hb : Below w.heap.size w w') => specArenaOk_any a os w' (ha.on hb) hl hs hf
  have HV : Hid (((w.alloc (boxH a p t r (.slice ag xs.length cg))).alloc (boxG p t r (.slice ag xs.length cg))).heap[w.heap.size + 1]? = some (boxG p t r (.slice ag xs.length cg))) := by
    show _ = _
    have e := heap_alloc_new (w.alloc (boxH a p t r (.slice ag xs.length cg))) (boxG p t r (.slice ag xs.length cg))
    simpa using e
  have HX : Hid (∀ w', Below w.heap.size w w' → IsInts w' (.slice ag xs.length cg) xs) := fun w' hb => hx.on hb
  have hcap : xs.length ≤ cg := by obtain ⟨_, _, hv, hc, _⟩ := id hx; cases hv; exact hc
  obtain ⟨aa, ca, rfl, _, _⟩ := ha
  rw [h1] at CA
  have CB := fun w => l1In_b p 0 1 w
  have CR := fun w => l1In_b r 0 1000000 w
  rw [h2] at CB
  rw [h3] at CR
  subst h4
  have CT := fun w => specSlot_b t w
  rw [h5] at CT
  rw [h6] at hcap HV HX ⊢
  clear h1 h2 h3 h5 hl hs hf hn
  go_enter Tryz.func23, Tryz.ntmps23
  go_wp2_with fail
  refine (CA.out _ (by go_grown)).mono ?_
  rintro e w1 ⟨rfl, hb1⟩
  have HV1 := hid_of (keep HV.out hb1)
  have HB1 : Hid (Below w.heap.size w w1) := below_more (by go_grown) hb1
  have q0 : w1.cell? ⟨w.heap.size + 1, 0, none⟩ = some (.int .i64 1) := by have e := HV1.out; simp [World.cell?, e]
  have q1 : w1.cell? ⟨w.heap.size + 1, 1, none⟩ = some (.int .i64 t) := by have e := HV1.out; simp [World.cell?, e]
  have q2 : w1.cell? ⟨w.heap.size + 1, 2, none⟩ = some (.int .i64 r) := by have e := HV1.out; simp [World.cell?, e]
  have q3 : w1.cell? ⟨w.heap.size + 1, 3, none⟩ = some (.slice ag 0 cg) := by have e := HV1.out; simp [World.cell?, e]
  clear hb1 CA HV
  go_wp2_with fail
  refine (CB _).mono ?_
  rintro e w2 ⟨rfl, rfl⟩
  clear CB
  go_wp2_with fail
  refine (CR _).mono ?_
  rintro e w2 ⟨rfl, rfl⟩
  clear CR
  go_wp2_with fail
  refine (CT _).mono ?_
  rintro e w2 ⟨rfl, rfl⟩
  clear CT
  go_wp2
  go_loopw [4] (fun i wr => i = .int .i64 0 ∧ wr = w1) (fun i _ => 0)
  case atStart => exact ⟨rfl, rfl⟩
  case round =>
    obtain ⟨rfl, rfl⟩ := hrel
    go_wp2
    go_ret
    exact ⟨rfl, HB1.out⟩
theorem specHeapOk_any (a : Value) (p t r : Int) (g : Value) (os : List Ob) (xs : List Int) (w : World) (ha : IsArena w a os) (hx : IsInts w g xs) (hl : os.length ≤ 1048576) (hs : Small8 os) (hf : AllFit os) (hn : xs.length ≤ 1048576) :
    Calls Tryz.prog 23 #[hpV a p t r g] w fun e w' => e = .returned (.bool (heapOk os p t r xs)) ∧ Below w.heap.size w w' := by
  have hx0 := hx
  obtain ⟨ag, cg, rfl, _, _⟩ := hx
  unfold heapOk
  cases h1 : arenaOk os with
  | false => exact sHeap_dead ag cg a p t r os xs w ha hx0 hl hs hf hn h1
  | true =>
    cases h2 : inB p 0 1 with
    | false => exact sHeap_phase ag cg a p t r os xs w ha hx0 hl hs hf hn h1 h2
    | true =>
      cases h3 : inB r 0 1000000 with
      | false =>
        rw [Bool.and_false]
        exact sHeap_round ag cg a p t r os xs w ha hx0 hl hs hf hn h1 h2 h3
      | true =>
        rw [Bool.and_true]
        by_cases h4 : p = 0
        · have e : rightB p t xs = (decide (t = 0) && greyB xs) := if_pos h4
          rw [e]
          by_cases h5 : t = 0
          · rw [decide_eq_true h5]
            exact sHeap_mark ag cg a p t r os xs w ha hx0 hl hs hf hn h1 h2 h3 h4 h5
          · rw [decide_eq_false h5]
            exact sHeap_at ag cg a p t r os xs w ha hx0 hl hs hf hn h1 h2 h3 h4 h5
        · have e : rightB p t xs = (inB t 0 9 && decide (xs.length = 0)) := if_neg h4
          have h4' : p = 1 := by have := inB_true h2; omega
          rw [e]
          cases h5 : inB t 0 9 with
          | false => exact sHeap_slot ag cg a p t r os xs w ha hx0 hl hs hf hn h1 h2 h3 h4' h5
          | true =>
            by_cases h6 : xs.length = 0
            · rw [decide_eq_true h6]
              exact sHeap_sweep ag cg a p t r os xs w ha hx0 hl hs hf hn h1 h2 h3 h4' h5 h6
            · rw [decide_eq_false h6]
              exact sHeap_grey ag cg a p t r os xs w ha hx0 hl hs hf hn h1 h2 h3 h4' h5 h6
end Go.Proofs.YtbdljoldblpffaaGreat
