/-
  Two arenas held against each other: the model and the program.
-/
import Derived.Test.YtfjgbncbcmgjiabSameS
import Derived.Test.YtfjgbncbcmgjiabArOkI
namespace Go.Proofs.Ytfjgbncbcmgjiab
open Go.RowKit
set_option linter.unusedVariables false

/-- Are two arenas alike? -/
def sameA (a b : List Ob) : Bool := decide (a.length = b.length) && (List.range a.length).all fun i => sameO (obAt a i) (obAt b i)
theorem sameA_len {a b : List Ob} (h : ¬ a.length = b.length) : sameA a b = false := by unfold sameA; rw [decide_eq_false h]; rfl
theorem sameA_no {a b : List Ob} {k : Nat} (hk : k < a.length) (h : sameO (obAt a k) (obAt b k) = false) : sameA a b = false := by
  have e : (List.range a.length).all (fun i => sameO (obAt a i) (obAt b i)) = false := List.all_eq_false.2 ⟨k, by simpa using hk, by simp [h]⟩
  unfold sameA
  rw [e, Bool.and_false]
theorem sameA_yes {a b : List Ob} (hl : a.length = b.length) (h : ∀ k, k < a.length → sameO (obAt a k) (obAt b k) = true) : sameA a b = true := by
  have e : (List.range a.length).all (fun i => sameO (obAt a i) (obAt b i)) = true := List.all_eq_true.2 fun k hk => h k (by simpa using hk)
  unfold sameA
  rw [e, decide_eq_true hl]; rfl
theorem ent47 : ∀ (a b : Ob) (l d m l' d' m' : Value) w', Sem.run Try.prog (callFunc 47 #[obV a l d m, obV b l' d' m']) w' = .ok (.enter 47 #[obV a l d m, obV b l' d' m']) w' := fun _ _ _ _ _ _ _ _ _ => by rfl
set_option maxRecDepth 100000 in
set_option maxHeartbeats 8000000 in
theorem equalF_any (v u : Value) (xs8 ys8 : List Ob) (w : World) (hx : IsArena w v xs8) (hy : IsArena w u ys8) (hn : xs8.length ≤ 1048576) (hs : Small8 xs8) :
    Calls Try.prog 46 #[v, u, .func (.func 47) #[] #[]] w fun e w' => e = .returned (.bool (sameA xs8 ys8)) ∧ Below w.heap.size w w' := by
  obtain ⟨pa, ca, rfl, hca, _⟩ := id hx
  obtain ⟨pb, cb, rfl, hcb, _⟩ := id hy
  by_cases hl : xs8.length = ys8.length
  · have HX : Hid (∀ wr, Below w.heap.size w wr → IsArena wr (.slice pa xs8.length ca) xs8) := fun wr hb => hx.on hb
    have HY : Hid (∀ wr, Below w.heap.size w wr → IsArena wr (.slice pb ys8.length cb) ys8) := fun wr hb => hy.on hb
    have HS : Hid (∀ i, obN (obAt xs8 i) ≤ 1048576) := hs
    obtain ⟨n, hn'⟩ : ∃ n, n = xs8.length := ⟨_, rfl⟩
    rw [← hn'] at hl hca HX hn
    rw [← hl] at hcb HY
    have HN : Hid (n = xs8.length ∧ n = ys8.length) := ⟨hn', hl⟩
    have e0 : xs8.length = n := hn'.symm
    have e1 : ys8.length = n := hl.symm
    rw [e0, e1]
    clear hx hy hs hn' hl e0 e1
    go_enter Try.func46, Try.ntmps46
    go_wp2
    go_loopw [17] (fun i wr => ∃ k : Nat, k ≤ n ∧ i = .int .i64 k ∧ Hid (∀ j, j < k → sameO (obAt xs8 j) (obAt ys8 j) = true) ∧ Below w.heap.size w wr) (fun i _ => n - (intOf i).toNat)
    case atStart => exact ⟨0, Nat.zero_le _, rfl, fun j hj => absurd hj (by omega), Below.refl _ _⟩
    case round =>
      obtain ⟨k, hk, rfl, hall, hnx⟩ := hrel
      by_cases hlt : k < n
      · obtain ⟨p, q, l, d, m, rfl, hq, hc, hu⟩ := (HX.out wr hnx).at (by rw [← HN.out.1]; exact hlt : k < xs8.length)
        obtain ⟨p', q', l', d', m', rfl, hq', hc', hu'⟩ := (HY.out wr hnx).at (by rw [← HN.out.2]; exact hlt : k < ys8.length)
        have HA : Hid (sameO (obAt xs8 k) (obAt ys8 k) = true → ∀ j, j < k + 1 → sameO (obAt xs8 j) (obAt ys8 j) = true) := fun h j hj => by
          by_cases e : j = k
          · rw [e]; exact h
          · exact hall.out j (by omega)
        have HNo : Hid (sameO (obAt xs8 k) (obAt ys8 k) = false → sameA xs8 ys8 = false) := fun h => sameA_no (by rw [← HN.out.1]; exact hlt) h
        have hsn := HS.out k
        obtain ⟨al, cl, rfl, hcl, _⟩ := id hu.ls
        obtain ⟨ad, cd, rfl, hcd, _⟩ := id hu.ds
        obtain ⟨aq, cq, rfl, hcq, _⟩ := id hu.qs
        obtain ⟨bl, dl, rfl, hdl, _⟩ := id hu'.ls
        obtain ⟨bd, dd, rfl, hdd, _⟩ := id hu'.ds
        obtain ⟨bq, dq, rfl, hdq, _⟩ := id hu'.qs
        have C : Hid (∀ w', Below wr.heap.size wr w' → _) := fun w' hb => sameObj_any (obAt xs8 k) (obAt ys8 k) _ _ _ _ _ _ w' (hu.on hb) (hu'.on hb) hsn
        have hc2 := hc'.on (below_alloc wr (boxO (obAt xs8 k) (.slice al (obAt xs8 k).ls.length cl) (.slice ad (obAt xs8 k).ds.length cd) (.slice aq (obAt xs8 k).qs.length cq)))
        generalize obAt xs8 k = x at C HA HNo hc hc2
        generalize obAt ys8 k = y at C HA HNo hc2
        obtain ⟨c0, c1, c2, c3, c4, c5, c6, c7, c8, c9, c10, c11, c12⟩ := hc
        obtain ⟨e0, e1, e2, e3, e4, e5, e6, e7, e8, e9, e10, e11, e12⟩ := hc2
        clear hu hu' hc' hsn hall
        cases hr : sameO x y with
        | true =>
          have HA2 := hid_of (HA.out hr)
          rw [hr] at C
          clear HA HNo hr
          go_wp2_with fail
          refine (C.out _ (by go_grown)).mono ?_
          rintro e w1 ⟨rfl, hb⟩
          have HB := hid_of (below_more hnx (below_more (by go_grown) hb))
          clear hb C hnx hq hq' c0 c1 c2 c3 c4 c5 c6 c7 c8 c9 c10 c11 c12 e0 e1 e2 e3 e4 e5 e6 e7 e8 e9 e10 e11 e12
          go_wp2
          go_roundw
          case rel => exact ⟨k + 1, by omega, by go_num, HA2, HB.out⟩
          case measure => simp [intOf]; omega
        | false =>
          have E := hid_of (HNo.out hr)
          rw [hr] at C
          clear HA HNo hr
          go_wp2_with fail
          refine (C.out _ (by go_grown)).mono ?_
          rintro e w1 ⟨rfl, hb⟩
          have HB := hid_of (below_more hnx (below_more (by go_grown) hb))
          clear hb C hnx hq hq' c0 c1 c2 c3 c4 c5 c6 c7 c8 c9 c10 c11 c12 e0 e1 e2 e3 e4 e5 e6 e7 e8 e9 e10 e11 e12
          go_wp2
          go_ret
          exact ⟨by rw [E.out]; rfl, HB.out⟩
      · obtain rfl : k = n := by omega
        have E : Hid (sameA xs8 ys8 = true) := sameA_yes (by rw [← HN.out.1, ← HN.out.2]) (fun j hj => hall.out j (by rw [HN.out.1]; exact hj))
        clear hall
        go_wp2
        go_ret
        exact ⟨by rw [E.out]; rfl, hnx⟩
  · rw [sameA_len hl]
    have hne : ((xs8.length : Int) != (ys8.length : Int)) = true := by simp; omega
    clear hx hy hs hl
    go_enter Try.func46, Try.ntmps46
    go_wp2
    go_ret
    exact ⟨rfl, Below.refl _ _⟩
theorem implSameA_any (v u : Value) (xs8 ys8 : List Ob) (w : World) (hx : IsArena w v xs8) (hy : IsArena w u ys8) (hn : xs8.length ≤ 1048576) (hs : Small8 xs8) :
    Calls Try.prog 23 #[v, u] w fun e w' => e = .returned (.bool (sameA xs8 ys8)) ∧ Below w.heap.size w w' := by
  have C := equalF_any v u xs8 ys8 w hx hy hn hs
  generalize sameA xs8 ys8 = r at C ⊢
  obtain ⟨pa, ca, rfl, hca, _⟩ := hx
  obtain ⟨pb, cb, rfl, hcb, _⟩ := hy
  clear hs
  go_enter Try.func23, Try.ntmps23
  go_wp2_with fail
  refine C.mono ?_
  rintro e w1 ⟨rfl, hb⟩
  have HB := hid_of hb
  clear C hb
  go_wp2
  go_ret
  exact ⟨rfl, HB.out⟩
set_option maxRecDepth 100000 in
set_option maxHeartbeats 8000000 in
theorem specSameA_any (v u : Value) (xs8 ys8 : List Ob) (w : World) (hx : IsArena w v xs8) (hy : IsArena w u ys8) (hn : xs8.length ≤ 1048576) (hs : Small8 xs8) :
    Calls Try.prog 22 #[v, u] w fun e w' => e = .returned (.bool (sameA xs8 ys8)) ∧ Below w.heap.size w w' := by
  obtain ⟨pa, ca, rfl, hca, _⟩ := id hx
  obtain ⟨pb, cb, rfl, hcb, _⟩ := id hy
  by_cases hl : xs8.length = ys8.length
  · have HX : Hid (∀ wr, Below w.heap.size w wr → IsArena wr (.slice pa xs8.length ca) xs8) := fun wr hb => hx.on hb
    have HY : Hid (∀ wr, Below w.heap.size w wr → IsArena wr (.slice pb ys8.length cb) ys8) := fun wr hb => hy.on hb
    have HS : Hid (∀ i, obN (obAt xs8 i) ≤ 1048576) := hs
    obtain ⟨n, hn'⟩ : ∃ n, n = xs8.length := ⟨_, rfl⟩
    rw [← hn'] at hl hca HX hn
    rw [← hl] at hcb HY
    have HN : Hid (n = xs8.length ∧ n = ys8.length) := ⟨hn', hl⟩
    have e0 : xs8.length = n := hn'.symm
    have e1 : ys8.length = n := hl.symm
    rw [e0, e1]
    clear hx hy hs hn' hl e0 e1
    go_enter Try.func22, Try.ntmps22
    go_wp2
    go_loopw [5] (fun i wr => ∃ k : Nat, k ≤ n ∧ i = .int .i64 k ∧ Hid (∀ j, j < k → sameO (obAt xs8 j) (obAt ys8 j) = true) ∧ Below w.heap.size w wr) (fun i _ => n - (intOf i).toNat)
    case atStart => exact ⟨0, Nat.zero_le _, rfl, fun j hj => absurd hj (by omega), Below.refl _ _⟩
    case round =>
      obtain ⟨k, hk, rfl, hall, hnx⟩ := hrel
      by_cases hlt : k < n
      · obtain ⟨p, q, l, d, m, rfl, hq, hc, hu⟩ := (HX.out wr hnx).at (by rw [← HN.out.1]; exact hlt : k < xs8.length)
        obtain ⟨p', q', l', d', m', rfl, hq', hc', hu'⟩ := (HY.out wr hnx).at (by rw [← HN.out.2]; exact hlt : k < ys8.length)
        have HA : Hid (sameO (obAt xs8 k) (obAt ys8 k) = true → ∀ j, j < k + 1 → sameO (obAt xs8 j) (obAt ys8 j) = true) := fun h j hj => by
          by_cases e : j = k
          · rw [e]; exact h
          · exact hall.out j (by omega)
        have HNo : Hid (sameO (obAt xs8 k) (obAt ys8 k) = false → sameA xs8 ys8 = false) := fun h => sameA_no (by rw [← HN.out.1]; exact hlt) h
        have hsn := HS.out k
        have C : Hid (∀ w', Below wr.heap.size wr w' → _) := fun w' hb => specSame_any (obAt xs8 k) (obAt ys8 k) _ _ _ _ _ _ w' (hu.on hb) (hu'.on hb) hsn
        generalize obAt xs8 k = x at C HA HNo hc
        generalize obAt ys8 k = y at C HA HNo hc'
        have HQ : Hid (ObCells wr q x l d m) := hc
        have HQ' : Hid (ObCells wr q' y l' d' m') := hc'
        generalize sameO x y = r at C HA HNo
        clear hu hu' hc hc' hsn hall
        go_wp2_with fail
        refine wp_region_whole (by kernel_rfl) (by kernel_rfl) (by kernel_rfl) (by kernel_rfl) (Flat (fun wz => Below w.heap.size w wz ∧ Below wr.heap.size wr wz) (gVals [.slice (some p) n ca, .int .i64 k, .pointer (some q), obV x l d m, .slice (some p') n cb, .int .i64 k, .pointer (some q'), obV y l' d' m', .bool r, .bool (!r)])) (flat_start ⟨hnx.drew, (below_draw wr)⟩) ?_ ?_
        · refine ⟨?_, ?_, ?_, ?_, ?_, ?_, ?_, ?_, ?_, ?_, trivial⟩
          · intro b0 us wz L hslot hoth hLi hR hcl hdo K hK
            have s0 : b0.tmps.getD 0 undef = .slice (some p) n ca := hoth 0 (by rfl)
            clear hslot hoth hdo hcl hLi
            refine guard_none (by rfl) ?_
            go_simp
            exact hK _ _ (flat_mark (hR.1) (fun _ _ h => h) hR.2 rfl)
          · intro b0 us wz L hslot hoth hLi hR hcl hdo K hK
            have s5 : b0.tmps.getD 5 undef = .int .i64 k := hoth 5 (by rfl)
            clear hslot hoth hdo hcl hLi
            refine guard_none (by rfl) ?_
            go_simp
            exact hK _ _ (flat_mark (hR.1) (fun _ _ h => h) hR.2 rfl)
          · intro b0 us wz L hslot hoth hLi hR hcl hdo K hK
            have s17 : b0.tmps.getD 17 undef = .slice (some p) n ca := (hslot 0 17 (by rfl)).trans (hR.2 0 (done_at hdo 0 (by rfl)))
            have s18 : b0.tmps.getD 18 undef = .int .i64 k := (hslot 1 18 (by rfl)).trans (hR.2 1 (done_at hdo 1 (by rfl)))
            clear hslot hoth hdo hcl hLi
            refine guard_none (by rfl) ?_
            go_simp
            exact hK _ _ (flat_mark (hR.1) (fun _ _ h => h) hR.2 rfl)
          · intro b0 us wz L hslot hoth hLi hR hcl hdo K hK
            have s19 : b0.tmps.getD 19 undef = .pointer (some q) := (hslot 2 19 (by rfl)).trans (hR.2 2 (done_at hdo 2 (by rfl)))
            have c := (HQ.out.on hR.1.2)
            have k0 := c.c0
            have k1 := c.c1
            have k2 := c.c2
            have k3 := c.c3
            have k4 := c.c4
            have k5 := c.c5
            have k6 := c.c6
            have k7 := c.c7
            have k8 := c.c8
            have k9 := c.c9
            have k10 := c.c10
            have k11 := c.c11
            have k12 := c.c12
            clear c
            clear hslot hoth hdo hcl hLi
            refine guard_none (by rfl) ?_
            go_simp
            exact hK _ _ (flat_mark (hR.1) (fun _ _ h => h) hR.2 rfl)
          · intro b0 us wz L hslot hoth hLi hR hcl hdo K hK
            have s1 : b0.tmps.getD 1 undef = .slice (some p') n cb := hoth 1 (by rfl)
            clear hslot hoth hdo hcl hLi
            refine guard_none (by rfl) ?_
            go_simp
            exact hK _ _ (flat_mark (hR.1) (fun _ _ h => h) hR.2 rfl)
          · intro b0 us wz L hslot hoth hLi hR hcl hdo K hK
            have s5 : b0.tmps.getD 5 undef = .int .i64 k := hoth 5 (by rfl)
            clear hslot hoth hdo hcl hLi
            refine guard_none (by rfl) ?_
            go_simp
            exact hK _ _ (flat_mark (hR.1) (fun _ _ h => h) hR.2 rfl)
          · intro b0 us wz L hslot hoth hLi hR hcl hdo K hK
            have s21 : b0.tmps.getD 21 undef = .slice (some p') n cb := (hslot 4 21 (by rfl)).trans (hR.2 4 (done_at hdo 4 (by rfl)))
            have s22 : b0.tmps.getD 22 undef = .int .i64 k := (hslot 5 22 (by rfl)).trans (hR.2 5 (done_at hdo 5 (by rfl)))
            clear hslot hoth hdo hcl hLi
            refine guard_none (by rfl) ?_
            go_simp
            exact hK _ _ (flat_mark (hR.1) (fun _ _ h => h) hR.2 rfl)
          · intro b0 us wz L hslot hoth hLi hR hcl hdo K hK
            have s23 : b0.tmps.getD 23 undef = .pointer (some q') := (hslot 6 23 (by rfl)).trans (hR.2 6 (done_at hdo 6 (by rfl)))
            have c := (HQ'.out.on hR.1.2)
            have k0 := c.c0
            have k1 := c.c1
            have k2 := c.c2
            have k3 := c.c3
            have k4 := c.c4
            have k5 := c.c5
            have k6 := c.c6
            have k7 := c.c7
            have k8 := c.c8
            have k9 := c.c9
            have k10 := c.c10
            have k11 := c.c11
            have k12 := c.c12
            clear c
            clear hslot hoth hdo hcl hLi
            refine guard_none (by rfl) ?_
            go_simp
            exact hK _ _ (flat_mark (hR.1) (fun _ _ h => h) hR.2 rfl)
          · intro b0 us wz L hslot hoth hLi hR hcl hdo K hK
            have s20 : b0.tmps.getD 20 undef = obV x l d m := (hslot 3 20 (by rfl)).trans (hR.2 3 (done_at hdo 3 (by rfl)))
            have s24 : b0.tmps.getD 24 undef = obV y l' d' m' := (hslot 7 24 (by rfl)).trans (hR.2 7 (done_at hdo 7 (by rfl)))
            clear hslot hoth hdo hcl hLi
            refine guard_none (by rfl) ?_
            go_simp
            refine (C.out _ hR.1.2).mono ?_
            rintro e w' ⟨rfl, hb⟩
            exact hK _ _ (flat_mark ⟨below_more hR.1.1 hb, below_more hR.1.2 hb⟩ (fun _ _ h => h) hR.2 rfl)
          · intro b0 us wz L hslot hoth hLi hR hcl hdo K hK
            have s25 : b0.tmps.getD 25 undef = .bool r := (hslot 8 25 (by rfl)).trans (hR.2 8 (done_at hdo 8 (by rfl)))
            clear hslot hoth hdo hcl hLi
            refine guard_none (by rfl) ?_
            go_simp
            exact hK _ _ (flat_mark (hR.1) (fun _ _ h => h) hR.2 rfl)
        · intro us wn L hall hR a' ha'
          have g0 : us 0 = .slice (some p) n ca := hR.2 0 (hall 0 (by decide))
          have g1 : us 1 = .int .i64 k := hR.2 1 (hall 1 (by decide))
          have g2 : us 2 = .pointer (some q) := hR.2 2 (hall 2 (by decide))
          have g3 : us 3 = obV x l d m := hR.2 3 (hall 3 (by decide))
          have g4 : us 4 = .slice (some p') n cb := hR.2 4 (hall 4 (by decide))
          have g5 : us 5 = .int .i64 k := hR.2 5 (hall 5 (by decide))
          have g6 : us 6 = .pointer (some q') := hR.2 6 (hall 6 (by decide))
          have g7 : us 7 = obV y l' d' m' := hR.2 7 (hall 7 (by decide))
          have g8 : us 8 = .bool r := hR.2 8 (hall 8 (by decide))
          have g9 : us 9 = .bool (!r) := hR.2 9 (hall 9 (by decide))
          have HB1 : Hid (Below w.heap.size w wn) := hR.1.1
          clear hR hall
          simp only [putAll, g0, g1, g2, g3, g4, g5, g6, g7, g8, g9] at ha'
          subst ha'
          go_frame
          clear hq hq' HQ HQ' C
          cases r with
          | true =>
            have HA2 := hid_of (HA.out rfl)
            clear HA HNo
            go_wp2
            exact ⟨⟨k + 1, by omega, by go_num, HA2, HB1.out⟩, by simp [intOf]; omega⟩
          | false =>
            have E := hid_of (HNo.out rfl)
            clear HA HNo
            go_wp2
            go_ret
            exact ⟨by rw [E.out]; rfl, HB1.out⟩
      · obtain rfl : k = n := by omega
        have E : Hid (sameA xs8 ys8 = true) := sameA_yes (by rw [← HN.out.1, ← HN.out.2]) (fun j hj => hall.out j (by rw [HN.out.1]; exact hj))
        clear hall
        go_wp2
        go_ret
        exact ⟨by rw [E.out]; rfl, hnx⟩
  · rw [sameA_len hl]
    have hne : ((xs8.length : Int) != (ys8.length : Int)) = true := by simp; omega
    clear hx hy hs hl
    go_enter Try.func22, Try.ntmps22
    go_wp2
    go_ret
    exact ⟨rfl, Below.refl _ _⟩
end Go.Proofs.Ytfjgbncbcmgjiab
