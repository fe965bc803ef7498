/-
  Is a heap right: the model.
-/
import Derived.Test.YtbdljoldblpffaaGreatOkH
import Derived.Test.YtbdljoldblpffaaGreatArOkS
namespace Go.Proofs.YtbdljoldblpffaaGreat
open Go.RowKit
set_option linter.unusedVariables false
set_option maxRecDepth 100000

theorem grey_no1 {xs : List Int} {k : Nat} (hk : k < xs.length) (h : inB (xs.getD k 0) 0 9 = false) : greyB xs = false := by
  unfold greyB
  have : xs.all (fun x => inB x 0 9) = false := by
    cases e : xs.all (fun x => inB x 0 9) with
    | false => rfl
    | true =>
      have := List.all_eq_true.1 e _ (all_memI hk)
      rw [h] at this
      exact absurd this (by simp)
  rw [this]; rfl
theorem grey_no2 {xs : List Int} {k : Nat} (hk : k < xs.length) (h : hasI (xs.take k) (xs.getD k 0) = true) : greyB xs = false := by
  unfold greyB; rw [distTo_no hk h]; simp
/-- The first k are right. -/
def GreyTo (xs : List Int) (k : Nat) : Prop := (∀ j, j < k → inB (xs.getD j 0) 0 9 = true) ∧ distTo xs k = true
theorem greyTo_next {xs : List Int} {k : Nat} (h : GreyTo xs k) (h1 : inB (xs.getD k 0) 0 9 = true) (h2 : hasI (xs.take k) (xs.getD k 0) = false) : GreyTo xs (k + 1) :=
  ⟨fun j hj => by
    by_cases e : j = k
    · rw [e]; exact h1
    · exact h.1 j (by omega), by rw [distTo_next, h.2, h2]; rfl⟩
theorem greyTo_end {xs : List Int} (h : GreyTo xs xs.length) : greyB xs = true := by
  unfold greyB
  rw [h.2, Bool.and_true]
  refine List.all_eq_true.2 fun x hx => ?_
  obtain ⟨j, hj, rfl⟩ := List.getElem_of_mem hx
  have := h.1 j hj
  simpa [List.getD, hj] using this
set_option maxHeartbeats 8000000 in
theorem sHeap_dead (ag : Option Addr) (cg : Nat) (a : Value) (p t r : Int) (os : List Ob) (xs : List Int) (w : World) (ha : IsArena w a os) (hx : IsInts w (.slice ag xs.length cg) xs) (hl : os.length ≤ 1048576) (hs : Small8 os) (hf : AllFit os) (hn : xs.length ≤ 1048576) (h1 : arenaOk os = false) :
    Calls Tryz.prog 23 #[hpV a p t r (.slice ag xs.length cg)] w fun e w' => e = .returned (.bool false) ∧ Below w.heap.size w w' := by
  have CA : Hid (∀ w', Below w.heap.size w w' → _) := fun w' (hb : Below w.heap.size w w') => specArenaOk_any a os w' (ha.on hb) hl hs hf
  have HV : Hid (((w.alloc (boxH a p t r (.slice ag xs.length cg))).alloc (boxG p t r (.slice ag xs.length cg))).heap[w.heap.size + 1]? = some (boxG p t r (.slice ag xs.length cg))) := by
    show _ = _
    have e := heap_alloc_new (w.alloc (boxH a p t r (.slice ag xs.length cg))) (boxG p t r (.slice ag xs.length cg))
    simpa using e
  have HX : Hid (∀ w', Below w.heap.size w w' → IsInts w' (.slice ag xs.length cg) xs) := fun w' hb => hx.on hb
  have hcap : xs.length ≤ cg := by obtain ⟨_, _, hv, hc, _⟩ := id hx; cases hv; exact hc
  obtain ⟨aa, ca, rfl, _, _⟩ := ha
  rw [h1] at CA
  clear h1 hl hs hf hn
  go_enter Tryz.func23, Tryz.ntmps23
  go_wp2_with fail
  refine (CA.out _ (by go_grown)).mono ?_
  rintro e w1 ⟨rfl, hb1⟩
  have HV1 := hid_of (keep HV.out hb1)
  have HB1 : Hid (Below w.heap.size w w1) := below_more (by go_grown) hb1
  have q0 : w1.cell? ⟨w.heap.size + 1, 0, none⟩ = some (.int .i64 p) := by have e := HV1.out; simp [World.cell?, e]
  have q1 : w1.cell? ⟨w.heap.size + 1, 1, none⟩ = some (.int .i64 t) := by have e := HV1.out; simp [World.cell?, e]
  have q2 : w1.cell? ⟨w.heap.size + 1, 2, none⟩ = some (.int .i64 r) := by have e := HV1.out; simp [World.cell?, e]
  have q3 : w1.cell? ⟨w.heap.size + 1, 3, none⟩ = some (.slice ag xs.length cg) := by have e := HV1.out; simp [World.cell?, e]
  clear hb1 CA HV
  go_wp2
  go_ret
  exact ⟨rfl, HB1.out⟩
set_option maxHeartbeats 8000000 in
theorem sHeap_phase (ag : Option Addr) (cg : Nat) (a : Value) (p t r : Int) (os : List Ob) (xs : List Int) (w : World) (ha : IsArena w a os) (hx : IsInts w (.slice ag xs.length cg) xs) (hl : os.length ≤ 1048576) (hs : Small8 os) (hf : AllFit os) (hn : xs.length ≤ 1048576) (h1 : arenaOk os = true) (h2 : inB p 0 1 = false) :
    Calls Tryz.prog 23 #[hpV a p t r (.slice ag xs.length cg)] w fun e w' => e = .returned (.bool false) ∧ Below w.heap.size w w' := by
  have CA : Hid (∀ w', Below w.heap.size w w' → _) := fun w' (hb : Below w.heap.size w w') => specArenaOk_any a os w' (ha.on hb) hl hs hf
  have HV : Hid (((w.alloc (boxH a p t r (.slice ag xs.length cg))).alloc (boxG p t r (.slice ag xs.length cg))).heap[w.heap.size + 1]? = some (boxG p t r (.slice ag xs.length cg))) := by
    show _ = _
    have e := heap_alloc_new (w.alloc (boxH a p t r (.slice ag xs.length cg))) (boxG p t r (.slice ag xs.length cg))
    simpa using e
  have HX : Hid (∀ w', Below w.heap.size w w' → IsInts w' (.slice ag xs.length cg) xs) := fun w' hb => hx.on hb
  have hcap : xs.length ≤ cg := by obtain ⟨_, _, hv, hc, _⟩ := id hx; cases hv; exact hc
  obtain ⟨aa, ca, rfl, _, _⟩ := ha
  rw [h1] at CA
  have CB := fun w => l1In_b p 0 1 w
  rw [h2] at CB
  clear h1 h2 hl hs hf hn
  go_enter Tryz.func23, Tryz.ntmps23
  go_wp2_with fail
  refine (CA.out _ (by go_grown)).mono ?_
  rintro e w1 ⟨rfl, hb1⟩
  have HV1 := hid_of (keep HV.out hb1)
  have HB1 : Hid (Below w.heap.size w w1) := below_more (by go_grown) hb1
  have q0 : w1.cell? ⟨w.heap.size + 1, 0, none⟩ = some (.int .i64 p) := by have e := HV1.out; simp [World.cell?, e]
  have q1 : w1.cell? ⟨w.heap.size + 1, 1, none⟩ = some (.int .i64 t) := by have e := HV1.out; simp [World.cell?, e]
  have q2 : w1.cell? ⟨w.heap.size + 1, 2, none⟩ = some (.int .i64 r) := by have e := HV1.out; simp [World.cell?, e]
  have q3 : w1.cell? ⟨w.heap.size + 1, 3, none⟩ = some (.slice ag xs.length cg) := by have e := HV1.out; simp [World.cell?, e]
  clear hb1 CA HV
  go_wp2_with fail
  refine (CB _).mono ?_
  rintro e w2 ⟨rfl, rfl⟩
  clear CB
  go_wp2
  go_ret
  exact ⟨rfl, HB1.out⟩
set_option maxHeartbeats 8000000 in
theorem sHeap_round (ag : Option Addr) (cg : Nat) (a : Value) (p t r : Int) (os : List Ob) (xs : List Int) (w : World) (ha : IsArena w a os) (hx : IsInts w (.slice ag xs.length cg) xs) (hl : os.length ≤ 1048576) (hs : Small8 os) (hf : AllFit os) (hn : xs.length ≤ 1048576) (h1 : arenaOk os = true) (h2 : inB p 0 1 = true) (h3 : inB r 0 1000000 = false) :
    Calls Tryz.prog 23 #[hpV a p t r (.slice ag xs.length cg)] w fun e w' => e = .returned (.bool false) ∧ Below w.heap.size w w' := by
  have CA : Hid (∀ w', Below w.heap.size w w' → _) := fun w' (hb : Below w.heap.size w w') => specArenaOk_any a os w' (ha.on hb) hl hs hf
  have HV : Hid (((w.alloc (boxH a p t r (.slice ag xs.length cg))).alloc (boxG p t r (.slice ag xs.length cg))).heap[w.heap.size + 1]? = some (boxG p t r (.slice ag xs.length cg))) := by
    show _ = _
    have e := heap_alloc_new (w.alloc (boxH a p t r (.slice ag xs.length cg))) (boxG p t r (.slice ag xs.length cg))
    simpa using e
  have HX : Hid (∀ w', Below w.heap.size w w' → IsInts w' (.slice ag xs.length cg) xs) := fun w' hb => hx.on hb
  have hcap : xs.length ≤ cg := by obtain ⟨_, _, hv, hc, _⟩ := id hx; cases hv; exact hc
  obtain ⟨aa, ca, rfl, _, _⟩ := ha
  rw [h1] at CA
  have CB := fun w => l1In_b p 0 1 w
  have CR := fun w => l1In_b r 0 1000000 w
  rw [h2] at CB
  rw [h3] at CR
  clear h1 h2 h3 hl hs hf hn
  go_enter Tryz.func23, Tryz.ntmps23
  go_wp2_with fail
  refine (CA.out _ (by go_grown)).mono ?_
  rintro e w1 ⟨rfl, hb1⟩
  have HV1 := hid_of (keep HV.out hb1)
  have HB1 : Hid (Below w.heap.size w w1) := below_more (by go_grown) hb1
  have q0 : w1.cell? ⟨w.heap.size + 1, 0, none⟩ = some (.int .i64 p) := by have e := HV1.out; simp [World.cell?, e]
  have q1 : w1.cell? ⟨w.heap.size + 1, 1, none⟩ = some (.int .i64 t) := by have e := HV1.out; simp [World.cell?, e]
  have q2 : w1.cell? ⟨w.heap.size + 1, 2, none⟩ = some (.int .i64 r) := by have e := HV1.out; simp [World.cell?, e]
  have q3 : w1.cell? ⟨w.heap.size + 1, 3, none⟩ = some (.slice ag xs.length cg) := by have e := HV1.out; simp [World.cell?, e]
  clear hb1 CA HV
  go_wp2_with fail
  refine (CB _).mono ?_
  rintro e w2 ⟨rfl, rfl⟩
  clear CB
  go_wp2_with fail
  refine (CR _).mono ?_
  rintro e w2 ⟨rfl, rfl⟩
  clear CR
  go_wp2
  go_ret
  exact ⟨rfl, HB1.out⟩
set_option maxHeartbeats 8000000 in
theorem sHeap_at (ag : Option Addr) (cg : Nat) (a : Value) (p t r : Int) (os : List Ob) (xs : List Int) (w : World) (ha : IsArena w a os) (hx : IsInts w (.slice ag xs.length cg) xs) (hl : os.length ≤ 1048576) (hs : Small8 os) (hf : AllFit os) (hn : xs.length ≤ 1048576) (h1 : arenaOk os = true) (h2 : inB p 0 1 = true) (h3 : inB r 0 1000000 = true) (h4 : p = 0) (h5 : t ≠ 0) :
    Calls Tryz.prog 23 #[hpV a p t r (.slice ag xs.length cg)] w fun e w' => e = .returned (.bool false) ∧ Below w.heap.size w w' := by
  have CA : Hid (∀ w', Below w.heap.size w w' → _) := fun w' (hb : Below w.heap.size w w') => specArenaOk_any a os w' (ha.on hb) hl hs hf
  have HV : Hid (((w.alloc (boxH a p t r (.slice ag xs.length cg))).alloc (boxG p t r (.slice ag xs.length cg))).heap[w.heap.size + 1]? = some (boxG p t r (.slice ag xs.length cg))) := by
    show _ = _
    have e := heap_alloc_new (w.alloc (boxH a p t r (.slice ag xs.length cg))) (boxG p t r (.slice ag xs.length cg))
    simpa using e
  have HX : Hid (∀ w', Below w.heap.size w w' → IsInts w' (.slice ag xs.length cg) xs) := fun w' hb => hx.on hb
  have hcap : xs.length ≤ cg := by obtain ⟨_, _, hv, hc, _⟩ := id hx; cases hv; exact hc
  obtain ⟨aa, ca, rfl, _, _⟩ := ha
  rw [h1] at CA
  have CB := fun w => l1In_b p 0 1 w
  have CR := fun w => l1In_b r 0 1000000 w
  rw [h2] at CB
  rw [h3] at CR
  subst h4
  have n5 : (t != 0) = true := by simp [h5]
  clear h1 h2 h3 hl hs hf hn
  go_enter Tryz.func23, Tryz.ntmps23
  go_wp2_with fail
  refine (CA.out _ (by go_grown)).mono ?_
  rintro e w1 ⟨rfl, hb1⟩
  have HV1 := hid_of (keep HV.out hb1)
  have HB1 : Hid (Below w.heap.size w w1) := below_more (by go_grown) hb1
  have q0 : w1.cell? ⟨w.heap.size + 1, 0, none⟩ = some (.int .i64 0) := by have e := HV1.out; simp [World.cell?, e]
  have q1 : w1.cell? ⟨w.heap.size + 1, 1, none⟩ = some (.int .i64 t) := by have e := HV1.out; simp [World.cell?, e]
  have q2 : w1.cell? ⟨w.heap.size + 1, 2, none⟩ = some (.int .i64 r) := by have e := HV1.out; simp [World.cell?, e]
  have q3 : w1.cell? ⟨w.heap.size + 1, 3, none⟩ = some (.slice ag xs.length cg) := by have e := HV1.out; simp [World.cell?, e]
  clear hb1 CA HV
  go_wp2_with fail
  refine (CB _).mono ?_
  rintro e w2 ⟨rfl, rfl⟩
  clear CB
  go_wp2_with fail
  refine (CR _).mono ?_
  rintro e w2 ⟨rfl, rfl⟩
  clear CR
  go_wp2
  go_ret
  exact ⟨rfl, HB1.out⟩
set_option maxHeartbeats 8000000 in
theorem sHeap_mark (ag : Option Addr) (cg : Nat) (a : Value) (p t r : Int) (os : List Ob) (xs : List Int) (w : World) (ha : IsArena w a os) (hx : IsInts w (.slice ag xs.length cg) xs) (hl : os.length ≤ 1048576) (hs : Small8 os) (hf : AllFit os) (hn : xs.length ≤ 1048576) (h1 : arenaOk os = true) (h2 : inB p 0 1 = true) (h3 : inB r 0 1000000 = true) (h4 : p = 0) (h5 : t = 0) :
    Calls Tryz.prog 23 #[hpV a p t r (.slice ag xs.length cg)] w fun e w' => e = .returned (.bool (greyB xs)) ∧ Below w.heap.size w w' := by
  have CA : Hid (∀ w', Below w.heap.size w w' → _) := fun w' (hb : Below w.heap.size w w') => specArenaOk_any a os w' (ha.on hb) hl hs hf
  have HV : Hid (((w.alloc (boxH a p t r (.slice ag xs.length cg))).alloc (boxG p t r (.slice ag xs.length cg))).heap[w.heap.size + 1]? = some (boxG p t r (.slice ag xs.length cg))) := by
    show _ = _
    have e := heap_alloc_new (w.alloc (boxH a p t r (.slice ag xs.length cg))) (boxG p t r (.slice ag xs.length cg))
    simpa using e
  have HX : Hid (∀ w', Below w.heap.size w w' → IsInts w' (.slice ag xs.length cg) xs) := fun w' hb => hx.on hb
  have hcap : xs.length ≤ cg := by obtain ⟨_, _, hv, hc, _⟩ := id hx; cases hv; exact hc
  obtain ⟨aa, ca, rfl, _, _⟩ := ha
  rw [h1] at CA
  have CB := fun w => l1In_b p 0 1 w
  have CR := fun w => l1In_b r 0 1000000 w
  rw [h2] at CB
  rw [h3] at CR
  subst h4
  subst h5
  clear h1 h2 h3 hl hs hf
  go_enter Tryz.func23, Tryz.ntmps23
  go_wp2_with fail
  refine (CA.out _ (by go_grown)).mono ?_
  rintro e w1 ⟨rfl, hb1⟩
  have HV1 := hid_of (keep HV.out hb1)
  have HB1 : Hid (Below w.heap.size w w1) := below_more (by go_grown) hb1
  have q0 : w1.cell? ⟨w.heap.size + 1, 0, none⟩ = some (.int .i64 0) := by have e := HV1.out; simp [World.cell?, e]
  have q1 : w1.cell? ⟨w.heap.size + 1, 1, none⟩ = some (.int .i64 0) := by have e := HV1.out; simp [World.cell?, e]
  have q2 : w1.cell? ⟨w.heap.size + 1, 2, none⟩ = some (.int .i64 r) := by have e := HV1.out; simp [World.cell?, e]
  have q3 : w1.cell? ⟨w.heap.size + 1, 3, none⟩ = some (.slice ag xs.length cg) := by have e := HV1.out; simp [World.cell?, e]
  clear hb1 CA HV
  go_wp2_with fail
  refine (CB _).mono ?_
  rintro e w2 ⟨rfl, rfl⟩
  clear CB
  go_wp2_with fail
  refine (CR _).mono ?_
  rintro e w2 ⟨rfl, rfl⟩
  clear CR
  go_wp2
  go_loopw [4] (fun i wr => ∃ k : Nat, k ≤ xs.length ∧ i = .int .i64 k ∧ Hid (GreyTo xs k) ∧ Hid (Below w1.heap.size w1 wr)) (fun i _ => xs.length - (intOf i).toNat)
  case atStart => exact ⟨0, Nat.zero_le _, rfl, ⟨fun j hj => absurd hj (Nat.not_lt_zero _), rfl⟩, Below.refl _ _⟩
  case round =>
    obtain ⟨k, hk, rfl, hd, hbr⟩ := hrel
    have HBR : Hid (Below w.heap.size w wr) := below_more HB1.out hbr.out
    have hG := keep HV1.out hbr.out
    have k3 : wr.cell? ⟨w.heap.size + 1, 3, none⟩ = some (.slice ag xs.length cg) := by simp [World.cell?, hG]
    clear hG q0 q1 q2 q3
    by_cases hlt : k < xs.length
    · have hi := HX.out _ HBR.out
      obtain ⟨pp, rfl, hc⟩ : ∃ p, ag = some p ∧ wr.cell? (p.add k) = some (.int .i64 (xs.getD k 0)) := by
        obtain ⟨a', cap', hv, _, hx⟩ := hi
        cases hv
        exact hx k hlt
      have C2 : Hid (∀ n, Calls Tryz.prog 43 #[.slice (some pp) k cg, .int .i64 (xs.getD k 0)] (wr.drewN n) fun e w' => e = .returned (.bool (hasI (xs.take k) (xs.getD k 0))) ∧ w' = wr.drewN n) := fun n => (specHas_any (.slice (some pp) k cg) (xs.take k) (xs.getD k 0) (wr.drewN n) (isInts_take (hi.on (below_drewN (Below.refl _ _) n)) hk) (by rw [List.length_take]; omega)).mono fun e w' h => ⟨h.1, h.2.symm⟩
      have C1 : Hid (∀ w', Calls Tryz.prog 24 #[.int .i64 (xs.getD k 0)] w' fun e w'' => e = .returned (.bool (inB (xs.getD k 0) 0 9)) ∧ w'' = w') := fun w' => (specSlot_b (xs.getD k 0) w').mono fun e w'' h => ⟨h.1, h.2.symm⟩
      have HN1 : Hid (inB (xs.getD k 0) 0 9 = false → greyB xs = false) := fun h => grey_no1 hlt h
      have HN2 : Hid (hasI (xs.take k) (xs.getD k 0) = true → greyB xs = false) := fun h => grey_no2 hlt h
      have HG2 : Hid (inB (xs.getD k 0) 0 9 = true → hasI (xs.take k) (xs.getD k 0) = false → GreyTo xs (k + 1)) := fun h1 h2 => greyTo_next hd.out h1 h2
      generalize hasI (xs.take k) (xs.getD k 0) = o2 at C2 HN2 HG2
      generalize inB (xs.getD k 0) 0 9 = o1 at C1 HN1 HG2
      generalize xs.getD k 0 = x at hc C1 C2
      clear hi hd
      cases o1 with
      | false =>
        have HE : Hid (greyB xs = false) := HN1.out rfl
        clear HN1 HN2 HG2 C2
        go_wp2
        go_quiet ((go_at_call 24; exact Calls.quiet_of_same (C1.out _)))
        go_wp2
        go_ret
        exact ⟨by rw [HE.out]; rfl, below_drewN HBR.out _⟩
      | true =>
        cases o2 with
        | true =>
          have HE : Hid (greyB xs = false) := HN2.out rfl
          clear HN1 HN2 HG2
          go_wp2
          go_quiet ((first | (go_at_call 24; exact Calls.quiet_of_same (C1.out _)) | (go_at_call 43; exact Calls.quiet_of_same (C2.out _))))
          go_wp2
          go_ret
          exact ⟨by rw [HE.out]; rfl, below_drewN HBR.out _⟩
        | false =>
          have HE : Hid (GreyTo xs (k + 1)) := HG2.out rfl rfl
          clear HN1 HN2 HG2
          go_wp2
          go_quiet ((first | (go_at_call 24; exact Calls.quiet_of_same (C1.out _)) | (go_at_call 43; exact Calls.quiet_of_same (C2.out _))))
          go_wp2
          go_roundw
          case rel => exact ⟨k + 1, by omega, by go_num, HE, below_drewN hbr.out _⟩
          case measure => simp [intOf]; omega
    · obtain rfl : k = xs.length := by omega
      go_wp2
      go_ret
      exact ⟨by rw [greyTo_end hd.out]; rfl, HBR.out⟩
set_option maxHeartbeats 8000000 in
theorem sHeap_slot (ag : Option Addr) (cg : Nat) (a : Value) (p t r : Int) (os : List Ob) (xs : List Int) (w : World) (ha : IsArena w a os) (hx : IsInts w (.slice ag xs.length cg) xs) (hl : os.length ≤ 1048576) (hs : Small8 os) (hf : AllFit os) (hn : xs.length ≤ 1048576) (h1 : arenaOk os = true) (h2 : inB p 0 1 = true) (h3 : inB r 0 1000000 = true) (h4 : p = 1) (h5 : inB t 0 9 = false) :
    Calls Tryz.prog 23 #[hpV a p t r (.slice ag xs.length cg)] w fun e w' => e = .returned (.bool false) ∧ Below w.heap.size w w' := by
  have CA : Hid (∀ w', Below w.heap.size w w' → _) := fun w' (hb : Below w.heap.size w w') => specArenaOk_any a os w' (ha.on hb) hl hs hf
  have HV : Hid (((w.alloc (boxH a p t r (.slice ag xs.length cg))).alloc (boxG p t r (.slice ag xs.length cg))).heap[w.heap.size + 1]? = some (boxG p t r (.slice ag xs.length cg))) := by
    show _ = _
    have e := heap_alloc_new (w.alloc (boxH a p t r (.slice ag xs.length cg))) (boxG p t r (.slice ag xs.length cg))
    simpa using e
  have HX : Hid (∀ w', Below w.heap.size w w' → IsInts w' (.slice ag xs.length cg) xs) := fun w' hb => hx.on hb
  have hcap : xs.length ≤ cg := by obtain ⟨_, _, hv, hc, _⟩ := id hx; cases hv; exact hc
  obtain ⟨aa, ca, rfl, _, _⟩ := ha
  rw [h1] at CA
  have CB := fun w => l1In_b p 0 1 w
  have CR := fun w => l1In_b r 0 1000000 w
  rw [h2] at CB
  rw [h3] at CR
  subst h4
  have CT := fun w => specSlot_b t w
  rw [h5] at CT
  clear h1 h2 h3 h5 hl hs hf hn
  go_enter Tryz.func23, Tryz.ntmps23
  go_wp2_with fail
  refine (CA.out _ (by go_grown)).mono ?_
  rintro e w1 ⟨rfl, hb1⟩
  have HV1 := hid_of (keep HV.out hb1)
  have HB1 : Hid (Below w.heap.size w w1) := below_more (by go_grown) hb1
  have q0 : w1.cell? ⟨w.heap.size + 1, 0, none⟩ = some (.int .i64 1) := by have e := HV1.out; simp [World.cell?, e]
  have q1 : w1.cell? ⟨w.heap.size + 1, 1, none⟩ = some (.int .i64 t) := by have e := HV1.out; simp [World.cell?, e]
  have q2 : w1.cell? ⟨w.heap.size + 1, 2, none⟩ = some (.int .i64 r) := by have e := HV1.out; simp [World.cell?, e]
  have q3 : w1.cell? ⟨w.heap.size + 1, 3, none⟩ = some (.slice ag xs.length cg) := by have e := HV1.out; simp [World.cell?, e]
  clear hb1 CA HV
  go_wp2_with fail
  refine (CB _).mono ?_
  rintro e w2 ⟨rfl, rfl⟩
  clear CB
  go_wp2_with fail
  refine (CR _).mono ?_
  rintro e w2 ⟨rfl, rfl⟩
  clear CR
  go_wp2_with fail
  refine (CT _).mono ?_
  rintro e w2 ⟨rfl, rfl⟩
  clear CT
  go_wp2
  go_ret
  exact ⟨rfl, HB1.out⟩
set_option maxHeartbeats 8000000 in
theorem sHeap_grey (ag : Option Addr) (cg : Nat) (a : Value) (p t r : Int) (os : List Ob) (xs : List Int) (w : World) (ha : IsArena w a os) (hx : IsInts w (.slice ag xs.length cg) xs) (hl : os.length ≤ 1048576) (hs : Small8 os) (hf : AllFit os) (hn : xs.length ≤ 1048576) (h1 : arenaOk os = true) (h2 : inB p 0 1 = true) (h3 : inB r 0 1000000 = true) (h4 : p = 1) (h5 : inB t 0 9 = true) (h6 : xs.length ≠ 0) :
    Calls Tryz.prog 23 #[hpV a p t r (.slice ag xs.length cg)] w fun e w' => e = .returned (.bool false) ∧ Below w.heap.size w w' := by
  have CA : Hid (∀ w', Below w.heap.size w w' → _) := fun w' (hb : Below w.heap.size w w') => specArenaOk_any a os w' (ha.on hb) hl hs hf
  have HV : Hid (((w.alloc (boxH a p t r (.slice ag xs.length cg))).alloc (boxG p t r (.slice ag xs.length cg))).heap[w.heap.size + 1]? = some (boxG p t r (.slice ag xs.length cg))) := by
    show _ = _
    have e := heap_alloc_new (w.alloc (boxH a p t r (.slice ag xs.length cg))) (boxG p t r (.slice ag xs.length cg))
    simpa using e
  have HX : Hid (∀ w', Below w.heap.size w w' → IsInts w' (.slice ag xs.length cg) xs) := fun w' hb => hx.on hb
  have hcap : xs.length ≤ cg := by obtain ⟨_, _, hv, hc, _⟩ := id hx; cases hv; exact hc
  obtain ⟨aa, ca, rfl, _, _⟩ := ha
  rw [h1] at CA
  have CB := fun w => l1In_b p 0 1 w
  have CR := fun w => l1In_b r 0 1000000 w
  rw [h2] at CB
  rw [h3] at CR
  subst h4
  have CT := fun w => specSlot_b t w
  rw [h5] at CT
  have n6 : decide ((xs.length : Int) > 0) = true := by simp; omega
  have n7 : (0 : Int) < (xs.length : Int) := by omega
  clear h1 h2 h3 h5 hl hs hf hn
  go_enter Tryz.func23, Tryz.ntmps23
  go_wp2_with fail
  refine (CA.out _ (by go_grown)).mono ?_
  rintro e w1 ⟨rfl, hb1⟩
  have HV1 := hid_of (keep HV.out hb1)
  have HB1 : Hid (Below w.heap.size w w1) := below_more (by go_grown) hb1
  have q0 : w1.cell? ⟨w.heap.size + 1, 0, none⟩ = some (.int .i64 1) := by have e := HV1.out; simp [World.cell?, e]
  have q1 : w1.cell? ⟨w.heap.size + 1, 1, none⟩ = some (.int .i64 t) := by have e := HV1.out; simp [World.cell?, e]
  have q2 : w1.cell? ⟨w.heap.size + 1, 2, none⟩ = some (.int .i64 r) := by have e := HV1.out; simp [World.cell?, e]
  have q3 : w1.cell? ⟨w.heap.size + 1, 3, none⟩ = some (.slice ag xs.length cg) := by have e := HV1.out; simp [World.cell?, e]
  clear hb1 CA HV
  go_wp2_with fail
  refine (CB _).mono ?_
  rintro e w2 ⟨rfl, rfl⟩
  clear CB
  go_wp2_with fail
  refine (CR _).mono ?_
  rintro e w2 ⟨rfl, rfl⟩
  clear CR
  go_wp2_with fail
  refine (CT _).mono ?_
  rintro e w2 ⟨rfl, rfl⟩
  clear CT
  go_wp2
  go_ret
  exact ⟨rfl, HB1.out⟩
set_option maxHeartbeats 8000000 in
theorem sHeap_sweep (ag : Option Addr) (cg : Nat) (a : Value) (p t r : Int) (os : List Ob) (xs : List Int) (w : World) (ha : IsArena w a os) (hx : IsInts w (.slice ag xs.length cg) xs) (hl : os.length ≤ 1048576) (hs : Small8 os) (hf : AllFit os) (hn : xs.length ≤ 1048576) (h1 : arenaOk os = true) (h2 : inB p 0 1 = true) (h3 : inB r 0 1000000 = true) (h4 : p = 1) (h5 : inB t 0 9 = true) (h6 : xs.length = 0) :
    Calls Tryz.prog 23 #[hpV a p t r (.slice ag xs.length cg)] w fun e w' => e = .returned (.bool true) ∧ Below w.heap.size w w' := by
  have CA : Hid (∀ w', Below w.heap.size w w' → _) := fun w' (hb : Below w.heap.size w w') => specArenaOk_any a os w' (ha.on hb) hl hs hf
  have HV : Hid (((w.alloc (boxH a p t r (.slice ag xs.length cg))).alloc (boxG p t r (.slice ag xs.length cg))).heap[w.heap.size + 1]? = some (boxG p t r (.slice ag xs.length cg))) := by
    show _ = _
    have e := heap_alloc_new (w.alloc (boxH a p t r (.slice ag xs.length cg))) (boxG p t r (.slice ag xs.length cg))
    simpa using e
  have HX : Hid (∀ w', Below w.heap.size w w' → IsInts w' (.slice ag xs.length cg) xs) := fun w' hb => hx.on hb
  have hcap : xs.length ≤ cg := by obtain ⟨_, _, hv, hc, _⟩ := id hx; cases hv; exact hc
  obtain ⟨aa, ca, rfl, _, _⟩ := ha
  rw [h1] at CA
  have CB := fun w => l1In_b p 0 1 w
  have CR := fun w => l1In_b r 0 1000000 w
  rw [h2] at CB
  rw [h3] at CR
  subst h4
  have CT := fun w => specSlot_b t w
  rw [h5] at CT
  rw [h6] at hcap HV HX ⊢
  clear h1 h2 h3 h5 hl hs hf hn
  go_enter Tryz.func23, Tryz.ntmps23
  go_wp2_with fail
  refine (CA.out _ (by go_grown)).mono ?_
  rintro e w1 ⟨rfl, hb1⟩
  have HV1 := hid_of (keep HV.out hb1)
  have HB1 : Hid (Below w.heap.size w w1) := below_more (by go_grown) hb1
  have q0 : w1.cell? ⟨w.heap.size + 1, 0, none⟩ = some (.int .i64 1) := by have e := HV1.out; simp [World.cell?, e]
  have q1 : w1.cell? ⟨w.heap.size + 1, 1, none⟩ = some (.int .i64 t) := by have e := HV1.out; simp [World.cell?, e]
  have q2 : w1.cell? ⟨w.heap.size + 1, 2, none⟩ = some (.int .i64 r) := by have e := HV1.out; simp [World.cell?, e]
  have q3 : w1.cell? ⟨w.heap.size + 1, 3, none⟩ = some (.slice ag 0 cg) := by have e := HV1.out; simp [World.cell?, e]
  clear hb1 CA HV
  go_wp2_with fail
  refine (CB _).mono ?_
  rintro e w2 ⟨rfl, rfl⟩
  clear CB
  go_wp2_with fail
  refine (CR _).mono ?_
  rintro e w2 ⟨rfl, rfl⟩
  clear CR
  go_wp2_with fail
  refine (CT _).mono ?_
  rintro e w2 ⟨rfl, rfl⟩
  clear CT
  go_wp2
  go_loopw [4] (fun i wr => i = .int .i64 0 ∧ wr = w1) (fun i _ => 0)
  case atStart => exact ⟨rfl, rfl⟩
  case round =>
    obtain ⟨rfl, rfl⟩ := hrel
    go_wp2
    go_ret
    exact ⟨rfl, HB1.out⟩
theorem specHeapOk_any (a : Value) (p t r : Int) (g : Value) (os : List Ob) (xs : List Int) (w : World) (ha : IsArena w a os) (hx : IsInts w g xs) (hl : os.length ≤ 1048576) (hs : Small8 os) (hf : AllFit os) (hn : xs.length ≤ 1048576) :
    Calls Tryz.prog 23 #[hpV a p t r g] w fun e w' => e = .returned (.bool (heapOk os p t r xs)) ∧ Below w.heap.size w w' := by
  have hx0 := hx
  obtain ⟨ag, cg, rfl, _, _⟩ := hx
  unfold heapOk
  cases h1 : arenaOk os with
  | false => exact sHeap_dead ag cg a p t r os xs w ha hx0 hl hs hf hn h1
  | true =>
    cases h2 : inB p 0 1 with
    | false => exact sHeap_phase ag cg a p t r os xs w ha hx0 hl hs hf hn h1 h2
    | true =>
      cases h3 : inB r 0 1000000 with
      | false =>
        rw [Bool.and_false]
        exact sHeap_round ag cg a p t r os xs w ha hx0 hl hs hf hn h1 h2 h3
      | true =>
        rw [Bool.and_true]
        by_cases h4 : p = 0
        · have e : rightB p t xs = (decide (t = 0) && greyB xs) := if_pos h4
          rw [e]
          by_cases h5 : t = 0
          · rw [decide_eq_true h5]
            exact sHeap_mark ag cg a p t r os xs w ha hx0 hl hs hf hn h1 h2 h3 h4 h5
          · rw [decide_eq_false h5]
            exact sHeap_at ag cg a p t r os xs w ha hx0 hl hs hf hn h1 h2 h3 h4 h5
        · have e : rightB p t xs = (inB t 0 9 && decide (xs.length = 0)) := if_neg h4
          have h4' : p = 1 := by have := inB_true h2; omega
          rw [e]
          cases h5 : inB t 0 9 with
          | false => exact sHeap_slot ag cg a p t r os xs w ha hx0 hl hs hf hn h1 h2 h3 h4' h5
          | true =>
            by_cases h6 : xs.length = 0
            · rw [decide_eq_true h6]
              exact sHeap_sweep ag cg a p t r os xs w ha hx0 hl hs hf hn h1 h2 h3 h4' h5 h6
            · rw [decide_eq_false h6]
              exact sHeap_grey ag cg a p t r os xs w ha hx0 hl hs hf hn h1 h2 h3 h4' h5 h6
end Go.Proofs.YtbdljoldblpffaaGreat
