/-
  Is an arena right: what is asked of it; the program.
-/
import Derived.Test.YtokicnopfmokaaaOkC
import Derived.Test.YtokicnopfmokaaaAllO
namespace Go.Proofs.Ytokicnopfmokaaa
open Go.RowKit
set_option linter.unusedVariables false
set_option maxRecDepth 100000
set_option linter.unusedSimpArgs false

/-- Does a number name a thing that is there, or none? -/
def toThing (os : List Ob) (x : Int) : Bool := decide (x = -1) || !decide ((obAt os x.toNat).kind = 0)
def leadsB (os : List Ob) (o : Ob) : Bool := toThing os o.into && o.ls.all (toThing os)
def rootB (o : Ob) : Bool := decide (o.kind = 1) && (decide (o.into = -1) && decide (o.unt = 1000000))
/-- Is an arena right? -/
def arenaOk (os : List Ob) : Bool := decide (os.length = 10) && (os.all obOk && (rootB (obAt os 0) && os.all (leadsB os)))
theorem obOk_leads {o : Ob} (h : obOk o = true) : (-1 ≤ o.into ∧ o.into ≤ 9) ∧ ∀ x, x ∈ o.ls → -1 ≤ x ∧ x ≤ 9 := by
  have hc : commonB o = true → (-1 ≤ o.into ∧ o.into ≤ 9) ∧ ∀ x, x ∈ o.ls → -1 ≤ x ∧ x ≤ 9 := fun h => by
    unfold commonB at h
    simp only [Bool.and_eq_true] at h
    refine ⟨inB_true h.1, fun x hx => ?_⟩
    exact inB_true (List.all_eq_true.1 h.2.2.2.2.2 x hx)
  unfold obOk at h
  simp only [Bool.and_eq_true] at h
  obtain ⟨_, h⟩ := h
  split at h
  · unfold zeroB at h
    simp only [Bool.and_eq_true, decide_eq_true_eq, List.length_eq_zero_iff] at h
    refine ⟨by omega, fun x hx => ?_⟩
    rw [h.2.2.2.2.2.2.2.2.1] at hx
    cases hx
  · split at h
    · exact hc (by unfold boxB at h; simp only [Bool.and_eq_true] at h; exact h.1)
    · split at h
      · exact hc (by unfold segB at h; simp only [Bool.and_eq_true] at h; exact h.1)
      · split at h
        · exact hc (by unfold gateB at h; simp only [Bool.and_eq_true] at h; exact h.1)
        · split at h
          · exact hc (by unfold thrB at h; simp only [Bool.and_eq_true] at h; exact h.1)
          · cases h
theorem obOk_at {os : List Ob} (h : os.all obOk = true) {i : Nat} (hi : i < os.length) : obOk (obAt os i) = true := List.all_eq_true.1 h _ (all_memO hi)
theorem ent54 : ∀ (x : Int) (c : Value) w', Sem.run Try.prog (callFunc 60 #[.int .i64 x, c]) w' = .ok (.enter 60 #[.int .i64 x, c]) w' := fun _ _ _ => by rfl
theorem ent44 : ∀ (o : Ob) (l d m c : Value) w', Sem.run Try.prog (callFunc 41 #[obV o l d m, c]) w' = .ok (.enter 41 #[obV o l d m, c]) w' := fun _ _ _ _ _ _ => by rfl
theorem ent20 : ∀ (o : Ob) (l d m : Value) w', Sem.run Try.prog (callFunc 40 #[obV o l d m]) w' = .ok (.enter 40 #[obV o l d m]) w' := fun _ _ _ _ _ => by rfl
set_option maxHeartbeats 1000000 in
theorem isThing_any (x : Int) (b : Nat) (v : Value) (os : List Ob) (w : World) (hx : IsArena w v os) (hn : os.length ≤ 9223372036854775807) (hc : w.cell? ⟨b, 0, none⟩ = some v) (h0 : -1 ≤ x) (h1 : x < os.length) :
    Calls Try.prog 60 #[.int .i64 x, .pointer (some ⟨b, 0, none⟩)] w fun e w' => e = .returned (.bool (toThing os x)) ∧ w = w' := by
  obtain ⟨a, cap, rfl, hcap, _⟩ := id hx
  by_cases hm : x = -1
  · subst hm
    have e : toThing os (-1) = true := by simp [toThing]
    rw [e]
    clear e hx
    go_enter Try.func60, Try.ntmps60
    go_wp2
    go_ret
    exact ⟨rfl, rfl⟩
  · obtain ⟨k, rfl⟩ : ∃ k : Nat, x = k := ⟨x.toNat, by omega⟩
    have hk : k < os.length := by omega
    obtain ⟨p, q, l, d, m, rfl, hq, hcs, _⟩ := hx.at hk
    have k1 := hcs.c1
    have hkm : ((k : Int) == -1) = false := beq_eq_false_iff_ne.2 hm
    by_cases hz : (obAt os k).kind = 0
    · have e : toThing os k = false := by simp [toThing, hz]
      rw [e]
      rw [hz] at k1
      have hz' : ((0 : Int) != 0) = false := rfl
      clear e hx hz hcs
      go_enter Try.func60, Try.ntmps60
      go_wp2
      go_ret
      exact ⟨rfl, rfl⟩
    · have e : toThing os k = true := by simp [toThing, hz]
      rw [e]
      generalize (obAt os k).kind = z at hz k1
      have hz' : (z != 0) = true := by simp [hz]
      clear e hx hcs
      go_enter Try.func60, Try.ntmps60
      go_wp2
      go_ret
      exact ⟨rfl, rfl⟩
set_option maxHeartbeats 4000000 in
theorem leadsTo_any (v : Value) (os : List Ob) (o : Ob) (l d m : Value) (w : World) (hx : IsArena w v os) (hy : Lists w l d m o) (hn : os.length = 10) (ho : obN o ≤ 1048576) (hb1 : -1 ≤ o.into ∧ o.into ≤ 9) (hb2 : ∀ x, x ∈ o.ls → -1 ≤ x ∧ x ≤ 9) :
    Calls Try.prog 42 #[v, obV o l d m] w fun e w' => e = .returned (.bool (leadsB os o)) ∧ Below w.heap.size w w' := by
  have hba : Below w.heap.size w ((w.alloc (.cells #[v] 24 (0, 0))).alloc (boxO o l d m)) := ((Below.refl _ _).alloc (Nat.le_refl _) _).alloc (by simp) _
  have hbx : ((w.alloc (.cells #[v] 24 (0, 0))).alloc (boxO o l d m)).cell? ⟨w.heap.size, 0, none⟩ = some v := by
    have e : ((w.alloc (.cells #[v] 24 (0, 0))).alloc (boxO o l d m)).heap[w.heap.size]? = some (.cells #[v] 24 (0, 0)) := keep (heap_alloc_new w _) (below_alloc _ _)
    simp [World.cell?, e]
  have C0 : Hid (∀ w', Below ((w.alloc (.cells #[v] 24 (0, 0))).alloc (boxO o l d m)).heap.size ((w.alloc (.cells #[v] 24 (0, 0))).alloc (boxO o l d m)) w' → Calls Try.prog 60 #[.int .i64 o.into, .pointer (some ⟨w.heap.size, 0, none⟩)] w' fun e w'' => e = .returned (.bool (toThing os o.into)) ∧ w' = w'') := fun w' hb =>
    isThing_any o.into w.heap.size v os w' ((hx.on hba).on hb) (by omega) ((hb.cell (p := ⟨w.heap.size, 0, none⟩) (World.block_lt_of_cell? _ _ hbx)).trans hbx) hb1.1 (by omega)
  have C1 : Hid (∀ w', Below ((w.alloc (.cells #[v] 24 (0, 0))).alloc (boxO o l d m)).heap.size ((w.alloc (.cells #[v] 24 (0, 0))).alloc (boxO o l d m)) w' → Calls Try.prog 61 #[l, .func (.func 60) #[] #[.pointer (some ⟨w.heap.size, 0, none⟩)]] w' fun e w'' => e = .returned (.bool (o.ls.all (toThing os))) ∧ Below w'.heap.size w' w'') := fun w' hb =>
    allOkI1 60 (.pointer (some ⟨w.heap.size, 0, none⟩)) l o.ls (toThing os) w' ((hy.ls.on hba).on hb) (by unfold obN at ho; omega) (fun x w' => ent54 x _ w') (fun i hi w'' hb2' => (isThing_any (o.ls.getD i 0) w.heap.size v os w'' (((hx.on hba).on hb).on hb2') (by omega) ((hb2'.cell (p := ⟨w.heap.size, 0, none⟩) (Nat.lt_of_lt_of_le (World.block_lt_of_cell? _ _ hbx) hb.size)).trans ((hb.cell (p := ⟨w.heap.size, 0, none⟩) (World.block_lt_of_cell? _ _ hbx)).trans hbx)) (hb2 _ (all_memI hi)).1 (by have := (hb2 _ (all_memI hi)).2; omega)).mono fun e w3 h => ⟨h.1, by rw [← h.2]; exact Below.refl _ _⟩)
  have HBA := hid_of hba
  obtain ⟨⟨a, c, rfl, hac, _⟩, ⟨a', c', rfl, hac', _⟩, ⟨a'', c'', rfl, hac'', _⟩⟩ := hy
  obtain ⟨a0, cap0, rfl, hcap0, _⟩ := hx
  clear hn ho hb1 hb2 hbx hba
  cases h0 : toThing os o.into with
  | false =>
    have e : leadsB os o = false := by simp [leadsB, h0]
    rw [e]
    rw [h0] at C0
    clear e h0 C1
    go_enter Try.func42, Try.ntmps42
    go_wp2_with fail
    refine (C0.out _ (Below.refl _ _)).mono ?_
    rintro e w1 ⟨rfl, rfl⟩
    go_wp2
    go_ret
    exact ⟨rfl, HBA.out⟩
  | true =>
    have e : leadsB os o = o.ls.all (toThing os) := by simp [leadsB, h0]
    rw [e]
    rw [h0] at C0
    generalize o.ls.all (toThing os) = r at C1 ⊢
    clear e h0
    go_enter Try.func42, Try.ntmps42
    go_wp2_with fail
    refine (C0.out _ (Below.refl _ _)).mono ?_
    rintro e w1 ⟨rfl, rfl⟩
    go_wp2_with fail
    refine (C1.out _ (Below.refl _ _)).mono ?_
    rintro e w2 ⟨rfl, hb⟩
    have HB := hid_of (below_more HBA.out hb)
    clear hb C1 C0
    go_wp2
    go_ret
    exact ⟨rfl, HB.out⟩
set_option maxHeartbeats 4000000 in
theorem leadsC_any (b : Nat) (v : Value) (os : List Ob) (o : Ob) (l d m : Value) (w : World) (hx : IsArena w v os) (hc : w.cell? ⟨b, 0, none⟩ = some v) (hy : Lists w l d m o) (hn : os.length = 10) (ho : obN o ≤ 1048576) (hb1 : -1 ≤ o.into ∧ o.into ≤ 9) (hb2 : ∀ x, x ∈ o.ls → -1 ≤ x ∧ x ≤ 9) :
    Calls Try.prog 41 #[obV o l d m, .pointer (some ⟨b, 0, none⟩)] w fun e w' => e = .returned (.bool (leadsB os o)) ∧ Below w.heap.size w w' := by
  have C : Hid (∀ w', Below w.heap.size w w' → Calls Try.prog 42 #[v, obV o l d m] w' fun e w'' => e = .returned (.bool (leadsB os o)) ∧ Below w'.heap.size w' w'') := fun w' hb => leadsTo_any v os o l d m w' (hx.on hb) (hy.on hb) hn ho hb1 hb2
  have hbl : b < w.heap.size := World.block_lt_of_cell? w _ hc
  have hbn : b ≠ w.heap.size := Nat.ne_of_lt hbl
  generalize leadsB os o = r at C ⊢
  clear hx hy hn ho hb1 hb2
  go_enter Try.func41, Try.ntmps41
  go_wp2_with fail
  refine (C.out _ (by go_grown)).mono ?_
  rintro e w2 ⟨rfl, hb⟩
  have HB : Hid (Below w.heap.size w w2) := below_more (by go_grown) hb
  clear hb C
  go_wp2
  go_ret
  exact ⟨rfl, HB.out⟩
/-- No thing's lists are too long to be copied. -/
def Small8 (os : List Ob) : Prop := ∀ i, obN (obAt os i) ≤ 1048576
set_option maxRecDepth 100000 in
set_option maxHeartbeats 8000000 in
theorem implArenaOk_any (v : Value) (os : List Ob) (w : World) (hx : IsArena w v os) (hn : os.length ≤ 1048576) (hs : Small8 os) :
    Calls Try.prog 20 #[v] w fun e w' => e = .returned (.bool (arenaOk os)) ∧ Below w.heap.size w w' := by
  have hba : Below w.heap.size w (w.alloc (.cells #[v] 24 (0, 0))) := below_alloc w _
  have hbx : (w.alloc (.cells #[v] 24 (0, 0))).cell? ⟨w.heap.size, 0, none⟩ = some v := by simp
  obtain ⟨V, hV⟩ : ∃ V, V = w.alloc (.cells #[v] 24 (0, 0)) := ⟨_, rfl⟩
  rw [← hV] at hba hbx
  have C1 : Hid (∀ w', Below V.heap.size V w' → Calls Try.prog 39 #[v, .func (.func 40) #[] #[]] w' fun e w'' => e = .returned (.bool (os.all obOk)) ∧ Below w'.heap.size w' w'') := fun w' hb =>
    allOkO0 40 v os obOk w' ((hx.on hba).on hb) (by omega) ent20 (fun i hi l d m w'' _ hl => implObjOk_any _ l d m w'' hl (hs i))
  have HXV : Hid (∀ w', Below V.heap.size V w' → IsArena w' v os) := fun w' hb => (hx.on hba).on hb
  have HCV : Hid (∀ w', Below V.heap.size V w' → w'.cell? ⟨w.heap.size, 0, none⟩ = some v) := fun w' hb => (hb.cell (p := ⟨w.heap.size, 0, none⟩) (World.block_lt_of_cell? _ _ hbx)).trans hbx
  have HS := hid_of hs
  have HBA : Hid (Below w.heap.size w V) := hba
  obtain ⟨a, cap, rfl, hcap, _⟩ := id hx
  clear hba hbx hs hx
  by_cases hl : os.length = 10
  · rw [hl] at C1 HXV HCV hcap hV ⊢
    have nl : ((10 : Int) != 10) = false := rfl
    cases h1 : os.all obOk with
    | false =>
      have e : arenaOk os = false := by simp [arenaOk, h1]
      rw [e]
      rw [h1] at C1
      clear e h1
      go_enter Try.func20, Try.ntmps20
      go_wp2_with fail
      rw [← hV]
      refine (C1.out _ (Below.refl _ _)).mono ?_
      rintro e w1 ⟨rfl, hb⟩
      have HB := hid_of (below_more HBA.out hb)
      clear hb C1
      go_wp2
      go_ret
      exact ⟨rfl, HB.out⟩
    | true =>
      have C2 : Hid (∀ w', Below V.heap.size V w' → Calls Try.prog 39 #[.slice a 10 cap, .func (.func 41) #[] #[.pointer (some ⟨w.heap.size, 0, none⟩)]] w' fun e w'' => e = .returned (.bool (os.all (leadsB os))) ∧ Below w'.heap.size w' w'') := fun w' hb =>
        allOkO1 41 (.pointer (some ⟨w.heap.size, 0, none⟩)) (.slice a 10 cap) os (leadsB os) w' (HXV.out w' hb) (by omega) (fun o l d m w' => ent44 o l d m _ w') (fun i hi l d m w'' hb2 hl2 => leadsC_any w.heap.size (.slice a 10 cap) os _ l d m w'' ((HXV.out w' hb).on hb2) ((hb2.cell (p := ⟨w.heap.size, 0, none⟩) (World.block_lt_of_cell? _ _ (HCV.out w' hb))).trans (HCV.out w' hb)) hl2 hl (HS.out i) (obOk_leads (obOk_at h1 hi)).1 (obOk_leads (obOk_at h1 hi)).2)
      have hroot : arenaOk os = (rootB (obAt os 0) && os.all (leadsB os)) := by simp [arenaOk, hl, h1]
      rw [hroot]
      rw [h1] at C1
      have HX1 : Hid (∀ w', Below V.heap.size V w' → ∃ p q l d m, a = some p ∧ p.add (0 * 13) = q ∧ ObCells w' q (obAt os 0) l d m) := fun w' hb => by
        obtain ⟨p, q, l, d, m, h1, h2, h3, _⟩ := (HXV.out w' hb).at (i := 0) (by omega)
        exact ⟨p, q, l, d, m, h1, h2, h3⟩
      generalize os.all (leadsB os) = r at C2 ⊢
      generalize obAt os 0 = o at HX1 ⊢
      unfold rootB
      clear hroot h1 HXV HS hl hn
      by_cases hk : o.kind = 1
      · have qk : (o.kind != 1) = false := by simp [hk]
        by_cases hi : o.into = -1
        · have qi : (o.into != -1) = false := by simp [hi]
          by_cases hu : o.unt = 1000000
          · have qu : (o.unt != 1000000) = false := by simp [hu]
            rw [decide_eq_true hk, decide_eq_true hi, decide_eq_true hu, Bool.true_and, Bool.true_and, Bool.true_and]
            go_enter Try.func20, Try.ntmps20
            go_wp2_with fail
            rw [← hV]
            refine (C1.out _ (Below.refl _ _)).mono ?_
            rintro e w1 ⟨rfl, hb⟩
            have HB := hid_of (below_more HBA.out hb)
            have HV := hid_of hb
            have hcb := HCV.out w1 hb
            obtain ⟨p, q, l, d, m, rfl, hq, hcs⟩ := HX1.out w1 hb
            have hq0 : p.add 0 = q := by simpa using hq
            have c1 := hcs.c1
            have c2 := hcs.c2
            have c4 := hcs.c4
            clear hb C1 hcs HX1 HBA
            go_wp2_with fail
            refine (C2.out _ HV.out).mono ?_
            rintro e w2 ⟨rfl, hb⟩
            have HB2 := hid_of (below_more HB.out hb)
            clear hb C2
            go_wp2
            go_ret
            exact ⟨rfl, HB2.out⟩
          · have qu : (o.unt != 1000000) = true := by simp [hu]
            rw [decide_eq_false hu, Bool.and_false, Bool.and_false, Bool.false_and]
            go_enter Try.func20, Try.ntmps20
            go_wp2_with fail
            rw [← hV]
            refine (C1.out _ (Below.refl _ _)).mono ?_
            rintro e w1 ⟨rfl, hb⟩
            have HB := hid_of (below_more HBA.out hb)
            have HV := hid_of hb
            have hcb := HCV.out w1 hb
            obtain ⟨p, q, l, d, m, rfl, hq, hcs⟩ := HX1.out w1 hb
            have hq0 : p.add 0 = q := by simpa using hq
            have c1 := hcs.c1
            have c2 := hcs.c2
            have c4 := hcs.c4
            clear hb C1 hcs HX1 HBA
            clear C2
            go_wp2
            go_ret
            exact ⟨rfl, HB.out⟩
        · have qi : (o.into != -1) = true := by simp [hi]
          rw [decide_eq_false hi, Bool.false_and, Bool.and_false, Bool.false_and]
          go_enter Try.func20, Try.ntmps20
          go_wp2_with fail
          rw [← hV]
          refine (C1.out _ (Below.refl _ _)).mono ?_
          rintro e w1 ⟨rfl, hb⟩
          have HB := hid_of (below_more HBA.out hb)
          have HV := hid_of hb
          have hcb := HCV.out w1 hb
          obtain ⟨p, q, l, d, m, rfl, hq, hcs⟩ := HX1.out w1 hb
          have hq0 : p.add 0 = q := by simpa using hq
          have c1 := hcs.c1
          have c2 := hcs.c2
          have c4 := hcs.c4
          clear hb C1 hcs HX1 HBA
          clear C2
          go_wp2
          go_ret
          exact ⟨rfl, HB.out⟩
      · have qk : (o.kind != 1) = true := by simp [hk]
        rw [decide_eq_false hk, Bool.false_and, Bool.false_and]
        go_enter Try.func20, Try.ntmps20
        go_wp2_with fail
        rw [← hV]
        refine (C1.out _ (Below.refl _ _)).mono ?_
        rintro e w1 ⟨rfl, hb⟩
        have HB := hid_of (below_more HBA.out hb)
        have HV := hid_of hb
        have hcb := HCV.out w1 hb
        obtain ⟨p, q, l, d, m, rfl, hq, hcs⟩ := HX1.out w1 hb
        have hq0 : p.add 0 = q := by simpa using hq
        have c1 := hcs.c1
        have c2 := hcs.c2
        have c4 := hcs.c4
        clear hb C1 hcs HX1 HBA
        clear C2
        go_wp2
        go_ret
        exact ⟨rfl, HB.out⟩
  · have e : arenaOk os = false := by simp [arenaOk, hl]
    rw [e]
    have nl : ((os.length : Int) != 10) = true := by simp; omega
    clear e C1
    rw [hV] at HBA
    go_enter Try.func20, Try.ntmps20
    go_wp2
    go_ret
    exact ⟨rfl, HBA.out⟩
end Go.Proofs.Ytokicnopfmokaaa
