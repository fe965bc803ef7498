/-
  Edges: the program's and the model's. What is done to a right arena leaves it right. A thing is put: the model.
-/
import Derived.Test.YtgijpflojffckaaEdge9
import Derived.Test.YtgijpflojffckaaHandI
import Derived.Test.YtgijpflojffckaaHand
import Derived.Test.YtgijpflojffckaaArOkI
import Derived.Test.YtgijpflojffckaaArOkS
import Derived.Test.YtgijpflojffckaaSFree9
import Derived.Test.YtgijpflojffckaaFil9
namespace Go.Proofs.Ytgijpflojffckaa
open Go.RowKit
set_option linter.unusedVariables false
set_option maxRecDepth 100000

def edgesAns (os : List Ob) (i : Int) : List Int := if arenaOk os && inB i 0 9 then edgesTo os i.toNat os.length else []
theorem edgesTo_none {os : List Ob} {i : Nat} (h : ∀ k, edgeB os i k = false) : ∀ n, edgesTo os i n = []
  | 0 => rfl
  | n + 1 => by rw [edgesTo_no (h n), edgesTo_none h n]
theorem edge_dead {os : List Ob} {i : Nat} (hok : obOk (obAt os i) = true) (hz : (obAt os i).kind = 0) (k : Nat) : edgeB os i k = false := by
  unfold edgeB holdsB
  rw [hz, (zero_into hok hz).2]
  rfl
theorem arenaOk_parts {os : List Ob} (h : arenaOk os = true) : os.length = 10 ∧ os.all obOk = true ∧ rootB (obAt os 0) = true ∧ os.all (leadsB os) = true := by
  unfold arenaOk at h
  simp only [Bool.and_eq_true, decide_eq_true_eq] at h
  exact h
theorem holds_zero {os : List Ob} (h : arenaOk os = true) (i : Nat) : holdsB os i 0 = false := by
  unfold holdsB
  rw [root_into (arenaOk_parts h).2.2.1, show ((-1 : Int) == (i : Int)) = false from beq_eq_false_iff_ne.2 (by omega)]
  simp
theorem edgesAns_len (os : List Ob) (i : Int) (h : os.length ≤ 1048576) : (edgesAns os i).length ≤ 1048576 := by
  unfold edgesAns
  split
  · exact Nat.le_trans (edgesTo_len _ _ _) h
  · simp
set_option maxHeartbeats 1000000 in
theorem implEdges_any (v : Value) (os : List Ob) (i : Int) (w : World) (hx : IsArena w v os) (hn : os.length ≤ 1048576) (hs : Small8 os) :
    Calls Try.prog 18 #[v, .int .i64 i] w fun e w' => IntsAns (edgesAns os i) w e w' := by
  have C := implArenaOk_any v os w hx hn hs
  have CI := isSlot_b i
  have HE : Hid (∀ k w', k < os.length → Below w.heap.size w w' → Calls Try.prog 43 #[v, .int .i64 (k : Nat)] w' fun e w'' => IntsAns (edgesTo os k os.length) w' e w'') := fun k w' hk hb => implEdgesOf_any v os k w' (hx.on hb) hk hn (by have := hs k; unfold obN at this; omega)
  cases hok : arenaOk os with
  | false =>
    have e1 : edgesAns os i = [] := by unfold edgesAns; rw [hok]; rfl
    rw [e1]
    rw [hok] at C
    clear hok e1 HE hx CI
    go_enter Try.func18, Try.ntmps18
    go_wp2_with fail
    refine C.mono ?_
    rintro e w1 ⟨rfl, hb⟩
    clear C
    go_wp2
    go_ret
    exact ⟨_, rfl, World.ownsRow_nil _ _ _ _, hb⟩
  | true =>
    rw [hok] at C
    cases hi : inB i 0 9 with
    | false =>
      have e1 : edgesAns os i = [] := by unfold edgesAns; rw [hok, hi]; rfl
      rw [e1]
      simp only [hi] at CI
      clear hok e1 HE hx hi
      go_enter Try.func18, Try.ntmps18
      go_wp2_with fail
      refine C.mono ?_
      rintro e w1 ⟨rfl, hb⟩
      clear C
      go_wp2_with fail
      refine (CI _).mono ?_
      rintro e w2 ⟨rfl, rfl⟩
      clear CI
      go_wp2
      go_ret
      exact ⟨_, rfl, World.ownsRow_nil _ _ _ _, hb⟩
    | true =>
      have hib := inB_true hi
      simp only [hi] at CI
      obtain ⟨k, rfl⟩ : ∃ k : Nat, i = k := ⟨i.toNat, by omega⟩
      have hlen : os.length = 10 := (arenaOk_parts hok).1
      have e1 : edgesAns os k = edgesTo os k os.length := by unfold edgesAns; rw [hok, hi]; rfl
      have hk : k < os.length := by omega
      have HK := hid_of (fun w' hb => HE.out k w' hk hb)
      rw [e1]
      clear hok e1 HE hx hi hlen hk hib
      generalize edgesTo os k os.length = es at HK ⊢
      go_enter Try.func18, Try.ntmps18
      go_wp2_with fail
      refine C.mono ?_
      rintro e w1 ⟨rfl, hb⟩
      have HB := hid_of hb
      clear C hb
      go_wp2_with fail
      refine (CI _).mono ?_
      rintro e w2 ⟨rfl, rfl⟩
      clear CI
      go_wp2_with fail
      refine (HK.out _ HB.out).mono ?_
      rintro e w3 ⟨u, rfl, ho, hb⟩
      have HO := hid_of ho
      have HB3 := hid_of (below_more HB.out hb)
      have HSZ : Hid (w.heap.size ≤ w1.heap.size) := HB.out.size
      clear HK HB ho hb
      go_wp2
      go_ret
      exact ⟨_, rfl, owns_down HO.out HSZ.out, HB3.out⟩
end Go.Proofs.Ytgijpflojffckaa
namespace Go.Proofs.Ytgijpflojffckaa
open Go.RowKit
set_option linter.unusedVariables false
set_option maxRecDepth 100000

theorem obOk_few {o : Ob} (h : obOk o = true) : obN o ≤ 12 := by
  have hc : commonB o = true → o.ls.length = 2 ∧ o.pages ≤ 8 := fun h => by
    unfold commonB at h
    simp only [Bool.and_eq_true, decide_eq_true_eq] at h
    exact ⟨h.2.2.2.2.1, (inB_true h.2.2.2.1).2⟩
  unfold obOk at h
  simp only [Bool.and_eq_true] at h
  obtain ⟨_, h⟩ := h
  unfold obN
  split at h
  · unfold zeroB at h
    simp only [Bool.and_eq_true, decide_eq_true_eq] at h
    omega
  · split at h
    · unfold boxB dataN queueN at h
      simp only [Bool.and_eq_true, decide_eq_true_eq] at h
      have := hc h.1; omega
    · split at h
      · unfold segB dataS queueN at h
        simp only [Bool.and_eq_true, decide_eq_true_eq] at h
        have := hc h.1; omega
      · split at h
        · unfold gateB dataN queueG at h
          simp only [Bool.and_eq_true, decide_eq_true_eq] at h
          have := hc h.1; omega
        · split at h
          · unfold thrB dataN queueN at h
            simp only [Bool.and_eq_true, decide_eq_true_eq] at h
            have := hc h.1; omega
          · cases h
theorem ok_few {os : List Ob} (h : arenaOk os = true) (i : Nat) : obN (obAt os i) ≤ 12 := by
  obtain ⟨hl, hall, _, _⟩ := arenaOk_parts h
  by_cases hi : i < os.length
  · exact obOk_few (obOk_at hall hi)
  · unfold obAt
    rw [List.getD_eq_getElem?_getD, List.getElem?_eq_none (by omega)]
    simp [noOb, obN]
theorem ok_small {os : List Ob} (h : arenaOk os = true) : Small8 os := fun i => Nat.le_trans (ok_few h i) (by decide)
theorem ok_leads {os : List Ob} (h : arenaOk os = true) {i : Nat} (hi : i < 10) : leadsB os (obAt os i) = true := by
  obtain ⟨hl, _, _, hle⟩ := arenaOk_parts h
  exact List.all_eq_true.1 hle _ (all_memO (by omega))
/-- A thing whose lists and place alone turn, within bounds, stays right. -/
theorem obOk_turn {o : Ob} (h : obOk o = true) (hz : o.kind ≠ 0) (x : Int) (ls : List Int) (hx : -1 ≤ x ∧ x ≤ 9) (hl : ls.length = 2) (ha : ∀ y, y ∈ ls → -1 ≤ y ∧ y ≤ 9) : obOk { o with into := x, ls := ls } = true := by
  have hc : commonB o = true → commonB { o with into := x, ls := ls } = true := fun h => by
    unfold commonB at h ⊢
    simp only [Bool.and_eq_true, decide_eq_true_eq] at h ⊢
    exact ⟨inB_yes hx.1 hx.2, h.2.1, h.2.2.1, h.2.2.2.1, hl, List.all_eq_true.2 fun y hy => by unfold slotN; exact inB_yes (ha y hy).1 (ha y hy).2⟩
  unfold obOk at h ⊢
  simp only [Bool.and_eq_true] at h ⊢
  refine ⟨h.1, ?_⟩
  have h2 := h.2
  rw [if_neg hz] at h2 ⊢
  split at h2
  · rename_i e
    rw [if_pos e]
    unfold boxB at h2 ⊢
    simp only [Bool.and_eq_true] at h2 ⊢
    exact ⟨hc h2.1, h2.2⟩
  · rename_i e
    rw [if_neg e]
    split at h2
    · rename_i e
      rw [if_pos e]
      unfold segB at h2 ⊢
      simp only [Bool.and_eq_true] at h2 ⊢
      exact ⟨hc h2.1, h2.2⟩
    · rename_i e
      rw [if_neg e]
      split at h2
      · rename_i e
        rw [if_pos e]
        unfold gateB at h2 ⊢
        simp only [Bool.and_eq_true] at h2 ⊢
        exact ⟨hc h2.1, h2.2⟩
      · rename_i e
        rw [if_neg e]
        split at h2
        · rename_i e
          rw [if_pos e]
          unfold thrB at h2 ⊢
          simp only [Bool.and_eq_true] at h2 ⊢
          exact ⟨hc h2.1, h2.2⟩
        · cases h2
theorem newO_ok {x : Int} (h : 0 ≤ x ∧ x ≤ 999) : obOk (newO x) = true := by
  unfold obOk newO noOb zeroB
  simp [inB_yes h.1 h.2]
theorem obAt_map (f : Ob → Ob) (os : List Ob) {i : Nat} (h : i < os.length) : obAt (os.map f) i = f (obAt os i) := by
  rw [obAt_in (by rw [List.length_map]; exact h), obAt_in h, List.getElem_map]
theorem obAt_set (os : List Ob) {k i : Nat} (o : Ob) (hk : k < os.length) : obAt (os.set k o) i = if i = k then o else obAt os i := by
  unfold obAt List.getD
  rw [List.getElem?_set]
  by_cases e : k = i
  · subst e; simp [hk]
  · rw [if_neg e, if_neg (fun h => e h.symm)]
theorem ok_gen {os : List Ob} (h : arenaOk os = true) {i : Nat} (hi : i < 10) : 0 ≤ (obAt os i).gen ∧ (obAt os i).gen ≤ 999 := by
  obtain ⟨hl, hall, _, _⟩ := arenaOk_parts h
  have e := obOk_at hall (i := i) (by omega)
  unfold obOk at e
  simp only [Bool.and_eq_true] at e
  exact inB_true e.1
theorem thing_no {os : List Ob} {x : Int} (h : toThing os x = true) : x = -1 ∨ (obAt os x.toNat).kind ≠ 0 := by
  unfold toThing at h
  simp only [Bool.or_eq_true, decide_eq_true_eq, Bool.not_eq_true', decide_eq_false_iff_not] at h
  exact h
theorem thing_yes {os : List Ob} {x : Int} (h : x = -1 ∨ (obAt os x.toNat).kind ≠ 0) : toThing os x = true := by
  unfold toThing
  simp only [Bool.or_eq_true, decide_eq_true_eq, Bool.not_eq_true', decide_eq_false_iff_not]
  exact h
/-- What is freed leaves the arena right. -/
theorem free_ok {os : List Ob} (h : arenaOk os = true) (i : Int) : arenaOk (freeOf os i) = true := by
  unfold freeOf
  cases hb : freeB os i with
  | false => simp [h]
  | true =>
    rw [if_pos rfl]
    unfold freeB at hb
    simp only [Bool.and_eq_true, Bool.not_eq_true', beq_eq_false_iff_ne] at hb
    obtain ⟨_, hi, hi0, hk0⟩ := hb
    have hib := inB_true hi
    obtain ⟨k, rfl⟩ : ∃ k : Nat, i = k := ⟨i.toNat, by omega⟩
    rw [Int.toNat_natCast] at hk0 ⊢
    obtain ⟨hl, hall, hroot, _⟩ := arenaOk_parts h
    have hk1 : 0 < k := by omega
    have hat : ∀ j, j < 10 → obAt ((os.set k (newO (obAt os k).gen)).map (unO k)) j = unO k (if j = k then newO (obAt os k).gen else obAt os j) := fun j hj => by
      rw [obAt_map _ _ (by rw [List.length_set]; omega), obAt_set _ _ (by omega)]
    have hr := hroot
    unfold rootB at hr
    simp only [Bool.and_eq_true, decide_eq_true_eq] at hr
    have hun : ∀ x : Int, unN k x = -1 ∨ (unN k x = x ∧ x ≠ k) := fun x => by
      unfold unN
      by_cases e : x = (k : Int)
      · rw [if_pos e]; exact .inl rfl
      · rw [if_neg e]; exact .inr ⟨rfl, e⟩
    have hth : ∀ x : Int, -1 ≤ x ∧ x ≤ 9 → toThing os x = true → toThing ((os.set k (newO (obAt os k).gen)).map (unO k)) (unN k x) = true := fun x hx ht => by
      refine thing_yes ?_
      rcases hun x with e | ⟨e, hne⟩
      · exact .inl e
      · rw [e]
        rcases thing_no ht with e2 | e2
        · exact .inl e2
        · right
          rw [hat _ (by omega), if_neg (by omega)]
          exact e2
    refine ar_yes (by rw [List.length_map, List.length_set]; exact hl) ?_ fun j hj => ?_
    · rw [hat 0 (by omega), if_neg (by omega)]
      unfold rootB unO unN
      simp only [Bool.and_eq_true, decide_eq_true_eq]
      refine ⟨hr.1, ?_, hr.2.2⟩
      rw [hr.2.1, if_neg (by omega)]
    · rw [hat j hj]
      by_cases e : j = k
      · rw [if_pos e, unO_none (by omega) ⟨rfl, rfl⟩]
        refine ⟨newO_ok (ok_gen h (by omega)), ?_⟩
        unfold leadsB
        rw [Bool.and_eq_true]
        refine ⟨thing_yes (.inr ?_), rfl⟩
        show (obAt _ 0).kind ≠ 0
        rw [hat 0 (by omega), if_neg (by omega)]
        show (obAt os 0).kind ≠ 0
        rw [hr.1]; decide
      · rw [if_neg e]
        have hoj := obOk_at hall (i := j) (by omega)
        have hlj := ok_leads h hj
        unfold leadsB at hlj
        rw [Bool.and_eq_true] at hlj
        have hbd := obOk_leads hoj
        refine ⟨?_, ?_⟩
        · by_cases hz : (obAt os j).kind = 0
          · rw [unO_none (by omega) (zero_into hoj hz)]; exact hoj
          · refine obOk_turn hoj hz _ _ ?_ (by rw [List.length_map]; exact obOk_two hoj hz) fun y hy => ?_
            · rcases hun (obAt os j).into with e1 | ⟨e1, _⟩ <;> rw [e1] <;> omega
            · obtain ⟨z, hz1, rfl⟩ := List.mem_map.1 hy
              have := hbd.2 z hz1
              rcases hun z with e1 | ⟨e1, _⟩ <;> rw [e1] <;> omega
        · unfold leadsB unO
          rw [Bool.and_eq_true]
          refine ⟨hth _ hbd.1 hlj.1, List.all_eq_true.2 fun y hy => ?_⟩
          obtain ⟨z, hz1, rfl⟩ := List.mem_map.1 hy
          exact hth z (hbd.2 z hz1) (List.all_eq_true.1 hlj.2 z hz1)
theorem put_ok {os : List Ob} (h : arenaOk os = true) (o : Ob) : arenaOk (putOf os o) = true := by
  unfold putOf
  cases hb : putB os o with
  | false => simp [h]
  | true =>
    rw [if_pos rfl]
    unfold putB at hb
    simp only [Bool.and_eq_true] at hb
    exact hb.2.2.2
/-- One link is set to a thing that is there. -/
def linkL (os : List Ob) (i j : Nat) (x : Int) : List Ob := os.set i { obAt os i with ls := (obAt os i).ls.set j x }
theorem link_ok {os : List Ob} (h : arenaOk os = true) {i : Nat} (hi : i < 10) (j : Nat) (x : Int) (hk : (obAt os i).kind ≠ 0) (hx : -1 ≤ x ∧ x ≤ 9) (ht : toThing os x = true) : arenaOk (linkL os i j x) = true := by
  obtain ⟨hl, hall, hroot, _⟩ := arenaOk_parts h
  have hat : ∀ m, obAt (linkL os i j x) m = if m = i then { obAt os i with ls := (obAt os i).ls.set j x } else obAt os m := fun m => obAt_set _ _ (by omega)
  have hkind : ∀ m, (obAt (linkL os i j x) m).kind = (obAt os m).kind := fun m => by
    rw [hat]
    by_cases e : m = i
    · rw [if_pos e, e]
    · rw [if_neg e]
  have hth : ∀ y, toThing os y = true → toThing (linkL os i j x) y = true := fun y hy => thing_yes (by rw [hkind]; exact thing_no hy)
  refine ar_yes (by unfold linkL; rw [List.length_set]; exact hl) ?_ fun m hm => ?_
  · rw [hat]
    by_cases e : 0 = i
    · rw [if_pos e]
      subst e
      exact hroot
    · rw [if_neg e]; exact hroot
  · rw [hat]
    by_cases e : m = i
    · rw [if_pos e]
      have hoi := obOk_at hall (i := i) (by omega)
      have hli := ok_leads h hi
      unfold leadsB at hli
      rw [Bool.and_eq_true] at hli
      have hbd := obOk_leads hoi
      have hmem : ∀ y, y ∈ (obAt os i).ls.set j x → y = x ∨ y ∈ (obAt os i).ls := fun y hy => (List.mem_or_eq_of_mem_set hy).symm
      refine ⟨obOk_turn hoi hk _ _ hbd.1 (by rw [List.length_set]; exact obOk_two hoi hk) fun y hy => ?_, ?_⟩
      · rcases hmem y hy with e1 | e1
        · rw [e1]; exact hx
        · exact hbd.2 y e1
      · unfold leadsB
        rw [Bool.and_eq_true]
        refine ⟨hth _ hli.1, List.all_eq_true.2 fun y hy => ?_⟩
        rcases hmem y hy with e1 | e1
        · rw [e1]; exact hth x ht
        · exact hth y (List.all_eq_true.1 hli.2 y e1)
    · rw [if_neg e]
      refine ⟨obOk_at hall (by omega), ?_⟩
      have hlm := ok_leads h hm
      unfold leadsB at hlm ⊢
      rw [Bool.and_eq_true] at hlm ⊢
      exact ⟨hth _ hlm.1, List.all_eq_true.2 fun y hy => hth y (List.all_eq_true.1 hlm.2 y hy)⟩
theorem free_fit {os : List Ob} (hf : AllFit os) (i : Int) : AllFit (freeOf os i) := by
  unfold freeOf
  cases hb : freeB os i with
  | false => simpa using hf
  | true =>
    rw [if_pos rfl]
    intro j
    by_cases hj : j < os.length
    · rw [obAt_map _ _ (by rw [List.length_set]; exact hj)]
      show Fits (unO i _)
      have : ∀ o : Ob, Fits o → Fits (unO i o) := fun o h => h
      refine this _ ?_
      by_cases hk : i.toNat < os.length
      · rw [obAt_set _ _ hk]
        split
        · unfold Fits newO noOb; simp
        · exact hf j
      · rw [List.set_eq_of_length_le (by omega)]; exact hf j
    · unfold obAt
      rw [List.getD_eq_getElem?_getD, List.getElem?_eq_none (by simp; omega)]
      unfold Fits; simp [noOb]
theorem put_fit {os : List Ob} (hf : AllFit os) {o : Ob} (ho : Fits o) : AllFit (putOf os o) := by
  unfold putOf
  split
  · intro i
    rcases putL_obs os o (firstFill os).toNat i with ⟨h, _⟩ | h
    · rw [h]; exact ho
    · rw [h]; exact hf i
  · exact hf
theorem link_fit {os : List Ob} (hf : AllFit os) (i j : Nat) (x : Int) : AllFit (linkL os i j x) := fun m => by
  unfold linkL
  by_cases hi : i < os.length
  · rw [obAt_set _ _ hi]
    split
    · exact hf i
    · exact hf m
  · rw [List.set_eq_of_length_le (by omega)]; exact hf m
end Go.Proofs.Ytgijpflojffckaa
namespace Go.Proofs.Ytgijpflojffckaa
open Go.RowKit
set_option linter.unusedVariables false
set_option maxRecDepth 100000

theorem putL_fit {os : List Ob} {o : Ob} (hf : AllFit os) (ho : Fits o) (k : Nat) : AllFit (putL os o k) := fun i => by
  rcases putL_obs os o k i with ⟨h, _⟩ | h
  · rw [h]; exact ho
  · rw [h]; exact hf i
theorem fills_zero {os : List Ob} (h : arenaOk os = true) : fills (obAt os 0) = false := by
  unfold arenaOk at h
  simp only [Bool.and_eq_true] at h
  have hr := h.2.2.1
  unfold rootB at hr
  simp only [Bool.and_eq_true, decide_eq_true_eq] at hr
  unfold fills
  rw [hr.1]; rfl
theorem fills_next {os : List Ob} {k : Nat} (hk : k < os.length) (ha : ∀ e, e ∈ os.take k → fills e = false) (h : fills (obAt os k) = false) : ∀ e, e ∈ os.take (k + 1) → fills e = false := fun e he => by
  rw [take_ob hk, List.mem_append, List.mem_singleton] at he
  rcases he with h1 | h1
  · exact ha e h1
  · rw [h1]; exact h
set_option maxRecDepth 100000 in
set_option maxHeartbeats 8000000 in
theorem specPut_go (p : Addr) (cap : Nat) (os : List Ob) (o : Ob) (l d m : Value) (w : World) (hx : IsArena w (.slice (some p) 10 cap) os) (hy : Lists w l d m o) (hok : arenaOk os = true) (hs : Small8 os) (ho : obN o ≤ 1048576) (hf : AllFit os) (hfo : Fits o) :
    Calls Try.prog 62 #[.slice (some p) 10 cap, obV o l d m] w fun e w' => PutAns (putOf os o) (putI os o) w e w' := by
  have hlen : os.length = 10 := by unfold arenaOk at hok; simp only [Bool.and_eq_true, decide_eq_true_eq] at hok; exact hok.1
  have HC : Hid (∀ w', Below w.heap.size w w' → Calls Try.prog 71 #[.slice (some p) 10 cap] w' fun e w'' => ∃ g c fs rest, e = .returned (.slice (some ⟨g, 0, none⟩) 10 c) ∧ arOf fs = os ∧ OwnA g c fs rest w'.heap.size w''.heap.size w'' ∧ Below w'.heap.size w' w'') := fun w' hb => by
    have e := specCopyA_any _ os w' (hx.on hb) (by omega) hs
    unfold ArenaOwn at e
    rw [hlen] at e
    exact e
  have HA : Hid (∀ w', Below w.heap.size w w' → Calls Try.prog 9 #[.slice (some p) 10 cap] w' fun e w'' => e = .returned (.bool true) ∧ Below w'.heap.size w' w'') := fun w' hb => by
    have e := specArenaOk_any _ os w' (hx.on hb) (by omega) hs hf
    rw [hok] at e
    exact e
  have HO : Hid (∀ w', Below w.heap.size w w' → Calls Try.prog 72 #[obV o l d m] w' fun e w'' => (∃ l' d' m', e = .returned (obV o l' d' m') ∧ OwnO w'.heap.size w''.heap.size w'' l' d' m' o) ∧ Below w'.heap.size w' w'') := fun w' hb => specObj_any o l d m w' (hy.on hb) ho
  have HB0 : Hid (Below w.heap.size w (w.alloc (boxO o l d m))) := below_alloc w _
  have HBX : Hid ((w.alloc (boxO o l d m)).heap[w.heap.size]? = some (boxO o l d m)) := heap_alloc_new w _
  have HX : Hid (∀ w', Below w.heap.size w w' → IsArena w' (.slice (some p) 10 cap) os) := fun w' hb => hx.on hb
  have hcap : 10 ≤ cap := by obtain ⟨_, _, hv, h, _⟩ := hx; have e := (Value.slice.inj hv).2.2; omega
  have HL : Hid (os.length = 10) := hlen
  have HOK : Hid (arenaOk os = true) := hok
  have HG : Hid (∀ k, k < 10 → 0 ≤ (obAt os k).gen ∧ (obAt os k).gen ≤ 999) := fun k hk => by
    have hall : os.all obOk = true := by unfold arenaOk at hok; simp only [Bool.and_eq_true] at hok; exact hok.2.1
    have e := obOk_at hall (by rw [hlen]; exact hk)
    unfold obOk at e
    simp only [Bool.and_eq_true] at e
    exact inB_true e.1
  have HP : Hid (∀ k w' v, IsArena w' v (putL os o k) → Calls Try.prog 9 #[v] w' fun e w'' => e = .returned (.bool (arenaOk (putL os o k))) ∧ Below w'.heap.size w' w'') := fun k w' v h => specArenaOk_any v _ w' h (by rw [putL_length]; omega) (putL_small hs ho k) (putL_fit hf hfo k)
  have HF0 : Hid (∀ e, e ∈ os.take 1 → fills e = false) := fills_next (k := 0) (by omega) (fun e he => by simp at he) (fills_zero hok)
  clear hx hy hs ho hlen hok hf hfo
  go_enter Try.func62, Try.ntmps62
  go_wp2_with fail
  refine (HC.out _ HB0.out).mono ?_
  rintro e w1 ⟨g, c, fs, rest, rfl, hfs, hown, hb1⟩
  have HB1 : Hid (Below w.heap.size w w1) := below_more HB0.out hb1
  have HOWN1 : Hid (arOf fs = os ∧ OwnA g c fs rest w.heap.size w1.heap.size w1) := ⟨hfs, hown.wide HB0.out.size (Nat.le_refl _)⟩
  have HGNE : Hid (g ≠ w.heap.size) := by have e := hown.lo; simp at e; show g ≠ _; omega
  have HBX1 : Hid (w1.heap[w.heap.size]? = some (boxO o l d m)) := keep HBX.out hb1
  clear hfs hown hb1
  go_wp2_with fail
  refine (HA.out _ HB1.out).mono ?_
  rintro e w2 ⟨rfl, hb2⟩
  have HB02 : Hid (Below w.heap.size w w2) := below_more HB1.out hb2
  have HBX2 : Hid (w2.heap[w.heap.size]? = some (boxO o l d m)) := keep HBX1.out hb2
  have HOWN : Hid (arOf fs = os ∧ OwnA g c fs rest w.heap.size w2.heap.size w2) := ⟨HOWN1.out.1, (HOWN1.out.2.on hb2).wide (Nat.le_refl _) hb2.size⟩
  clear hb2 HBX1 HBX HOWN1 HA
  go_wp2
  go_loop [7] (fun s7 => ∃ (k : Nat), 1 ≤ k ∧ k ≤ 10 ∧ s7 = .int .i64 k ∧ Hid (∀ e, e ∈ os.take k → fills e = false)) (fun s7 => 10 - (intOf s7).toNat)
  case atStart => exact ⟨1, by omega, by omega, rfl, HF0.out⟩
  case round =>
    obtain ⟨k, hk1, hk, rfl, hall⟩ := hrel
    by_cases hlt : k < 10
    · obtain ⟨p', q, l0, d0, m0, hp, hq, ⟨c0, c1, -, -, -, -, -, -, -, -, -, -, -⟩, -⟩ := (HX.out w2 HB02.out).at (i := k) (by rw [HL.out]; exact hlt)
      obtain rfl : p = p' := by simpa using hp
      clear hp
      by_cases hz : (obAt os k).kind = 0
      · by_cases hgl : (obAt os k).gen < 999
        · have hfil : fills (obAt os k) = true := by unfold fills; rw [hz]; simp [hgl]
          rw [hz] at c1
          clear hz
          have HFK : Hid (firstFill os = k) := firstFill_at (by rw [HL.out]; exact hlt) hfil hall.out
          have hgn := HG.out k hlt
          have hw : wrap64 ((obAt os k).gen + 1) = (obAt os k).gen + 1 := by unfold wrap64; omega
          have hfl : fs.length = 10 := by rw [← HL.out, ← HOWN.out.1, arOf_length]
          have hkf : k < fs.length := by rw [hfl]; exact hlt
          have b0 : w2.cell? ⟨w.heap.size, 0, none⟩ = some (.int .i64 o.gen) := by simp [World.cell?, HBX2.out]
          have b1 : w2.cell? ⟨w.heap.size, 1, none⟩ = some (.int .i64 o.kind) := by simp [World.cell?, HBX2.out]
          have b2 : w2.cell? ⟨w.heap.size, 2, none⟩ = some (.int .i64 o.into) := by simp [World.cell?, HBX2.out]
          have b3 : w2.cell? ⟨w.heap.size, 3, none⟩ = some (.int .i64 o.res) := by simp [World.cell?, HBX2.out]
          have b4 : w2.cell? ⟨w.heap.size, 4, none⟩ = some (.int .i64 o.unt) := by simp [World.cell?, HBX2.out]
          have b5 : w2.cell? ⟨w.heap.size, 5, none⟩ = some (.int .i64 o.pages) := by simp [World.cell?, HBX2.out]
          have b6 : w2.cell? ⟨w.heap.size, 6, none⟩ = some (.int .i64 o.wait) := by simp [World.cell?, HBX2.out]
          have b7 : w2.cell? ⟨w.heap.size, 7, none⟩ = some (.int .i64 o.got) := by simp [World.cell?, HBX2.out]
          have b8 : w2.cell? ⟨w.heap.size, 8, none⟩ = some (.int .i64 o.ran) := by simp [World.cell?, HBX2.out]
          have b9 : w2.cell? ⟨w.heap.size, 9, none⟩ = some (.bool o.mark) := by simp [World.cell?, HBX2.out]
          have b10 : w2.cell? ⟨w.heap.size, 10, none⟩ = some (l) := by simp [World.cell?, HBX2.out]
          have b11 : w2.cell? ⟨w.heap.size, 11, none⟩ = some (d) := by simp [World.cell?, HBX2.out]
          have b12 : w2.cell? ⟨w.heap.size, 12, none⟩ = some (m) := by simp [World.cell?, HBX2.out]
          obtain ⟨x, hx0⟩ : ∃ x, x = (obAt os k).gen := ⟨_, rfl⟩
          rw [← hx0] at c0 hw hgl
          have HX0 := hid_of hx0
          clear hx0 hfil hall hgn
          go_wp2_with fail
          refine (HO.out _ HB02.out).mono ?_
          rintro e w4 ⟨⟨l', d', m', rfl, hoo⟩, hb4⟩
          obtain ⟨x1, y1, rfl, _⟩ := id hoo.ls
          obtain ⟨x2, y2, rfl, _⟩ := id hoo.ds
          obtain ⟨x3, y3, rfl, _⟩ := id hoo.qs
          have ck : (w4.alloc (boxO o (.slice x1 o.ls.length y1) (.slice x2 o.ds.length y2) (.slice x3 o.qs.length y3))).cell? q = some (.int .i64 x) := ((below_more hb4 (below_alloc w4 _)).cell (World.block_lt_of_cell? w2 _ c0)).trans c0
          dsimp only
          repeat (first | (with_reducible refine halt_region (id := 10) ?_) | go_values | go_skip | go_guarded | go_step | go_upon | go_back)
          unfold Halt0
          obtain ⟨W5, hW5⟩ : ∃ W5, W5 = w4.alloc (.cells #[.int .i64 (x + 1), .int .i64 o.kind, .int .i64 o.into, .int .i64 o.res, .int .i64 o.unt, .int .i64 o.pages, .int .i64 o.wait, .int .i64 o.got, .int .i64 o.ran, .bool o.mark, .slice x1 o.ls.length y1, .slice x2 o.ds.length y2, .slice x3 o.qs.length y3] 28 (0, 0)) := ⟨_, rfl⟩
          rw [← hW5]
          have HB5 : Hid (Below w4.heap.size w4 W5) := by rw [hW5]; exact below_alloc w4 _
          have HN5 : Hid (W5.heap[w4.heap.size]? = some (boxO { o with gen := x + 1 } (.slice x1 o.ls.length y1) (.slice x2 o.ds.length y2) (.slice x3 o.qs.length y3))) := by rw [hW5]; exact heap_alloc_new w4 _
          have n0 : W5.cell? ⟨w4.heap.size, 0, none⟩ = some (.int .i64 (x + 1)) := by simp [World.cell?, HN5.out]
          have n1 : W5.cell? ⟨w4.heap.size, 1, none⟩ = some (.int .i64 o.kind) := by simp [World.cell?, HN5.out]
          have n2 : W5.cell? ⟨w4.heap.size, 2, none⟩ = some (.int .i64 o.into) := by simp [World.cell?, HN5.out]
          have n3 : W5.cell? ⟨w4.heap.size, 3, none⟩ = some (.int .i64 o.res) := by simp [World.cell?, HN5.out]
          have n4 : W5.cell? ⟨w4.heap.size, 4, none⟩ = some (.int .i64 o.unt) := by simp [World.cell?, HN5.out]
          have n5 : W5.cell? ⟨w4.heap.size, 5, none⟩ = some (.int .i64 o.pages) := by simp [World.cell?, HN5.out]
          have n6 : W5.cell? ⟨w4.heap.size, 6, none⟩ = some (.int .i64 o.wait) := by simp [World.cell?, HN5.out]
          have n7 : W5.cell? ⟨w4.heap.size, 7, none⟩ = some (.int .i64 o.got) := by simp [World.cell?, HN5.out]
          have n8 : W5.cell? ⟨w4.heap.size, 8, none⟩ = some (.int .i64 o.ran) := by simp [World.cell?, HN5.out]
          have n9 : W5.cell? ⟨w4.heap.size, 9, none⟩ = some (.bool o.mark) := by simp [World.cell?, HN5.out]
          have n10 : W5.cell? ⟨w4.heap.size, 10, none⟩ = some (.slice x1 o.ls.length y1) := by simp [World.cell?, HN5.out]
          have n11 : W5.cell? ⟨w4.heap.size, 11, none⟩ = some (.slice x2 o.ds.length y2) := by simp [World.cell?, HN5.out]
          have n12 : W5.cell? ⟨w4.heap.size, 12, none⟩ = some (.slice x3 o.qs.length y3) := by simp [World.cell?, HN5.out]
          clear hW5 ck
          have HOWN4 : Hid (OwnA g c fs rest w.heap.size w2.heap.size W5) := (HOWN.out.2.on hb4).on HB5.out
          have hoo5 : OwnO w2.heap.size w4.heap.size W5 (.slice x1 o.ls.length y1) (.slice x2 o.ds.length y2) (.slice x3 o.qs.length y3) { o with gen := x + 1 } := by
            have e := hoo.on (lo' := w2.heap.size) (hi' := w4.heap.size) HB5.out (Nat.le_refl _) (Nat.le_refl _)
            exact ⟨e.ls, e.ds, e.qs, e.nd⟩
          have hput := HOWN4.out.put (e := ⟨{ o with gen := x + 1 }, .slice x1 o.ls.length y1, .slice x2 o.ds.length y2, .slice x3 o.qs.length y3⟩) hoo5 hb4.size hkf
          have HFIN : Hid (arOf (fs.set k ⟨{ o with gen := x + 1 }, .slice x1 o.ls.length y1, .slice x2 o.ds.length y2, .slice x3 o.qs.length y3⟩) = putL os o k) := by
            show arOf _ = _
            rw [arOf_set, HOWN.out.1, HX0.out]; rfl
          have HGEN := hid_of hput
          have HBG : Hid (Below w.heap.size w (w13 W5 g (k * 13) { o with gen := x + 1 } (.slice x1 o.ls.length y1) (.slice x2 o.ds.length y2) (.slice x3 o.qs.length y3))) := below_w13 (below_more (below_more HB02.out hb4) HB5.out) HOWN.out.2.lo _ _ _ _ _
          have HBXG : Hid ((w13 W5 g (k * 13) { o with gen := x + 1 } (.slice x1 o.ls.length y1) (.slice x2 o.ds.length y2) (.slice x3 o.qs.length y3)).heap[w.heap.size]? = some (boxO o l d m)) := heap_w13_other (keep (keep HBX2.out hb4) HB5.out) (fun e => HGNE.out e.symm) _ _ _ _ _
          have HPC2 := hid_of (HP.out k (w13 W5 g (k * 13) { o with gen := x + 1 } (.slice x1 o.ls.length y1) (.slice x2 o.ds.length y2) (.slice x3 o.qs.length y3)) (.slice (some ⟨g, 0, none⟩) 10 c) (by have e := hput.arena; rw [HFIN.out, List.length_set, hfl] at e; exact e))
          obtain ⟨q0, q1, q2, q3, q4, q5, q6, q7, q8, q9, q10, q11, q12⟩ := HOWN4.out.cells hkf
          have hff := HOWN4.out.free
          have f0 := hff (k * 13)
          have f1 := hff (k * 13 + 1)
          have f2 := hff (k * 13 + 2)
          have f3 := hff (k * 13 + 3)
          have f4 := hff (k * 13 + 4)
          have f5 := hff (k * 13 + 5)
          have f6 := hff (k * 13 + 6)
          have f7 := hff (k * 13 + 7)
          have f8 := hff (k * 13 + 8)
          have f9 := hff (k * 13 + 9)
          have f10 := hff (k * 13 + 10)
          have f11 := hff (k * 13 + 11)
          have f12 := hff (k * 13 + 12)
          have hlc : 10 ≤ c := by have e := HOWN.out.2.cap; omega
          clear hfl hkf hoo hb4 hput hoo5 hff b0 b1 b2 b3 b4 b5 b6 b7 b8 b9 b10 b11 b12 c0 c1 hq
          cases hr : arenaOk (putL os o k) with
          | false =>
            rw [hr] at HPC2
            have HRR := hid_of hr
            clear hr
            have HPB : Hid (putB os o = false) := by show _ = _; unfold putB; rw [HOK.out, HFK.out, Int.toNat_natCast, HRR.out]; simp
            obtain ⟨e1, e2⟩ := PutAns.no HPB.out
            have HE12 : Hid (putOf os o = os ∧ putI os o = -1) := ⟨e1, e2⟩
            clear e1 e2 HPB
            go_wp2_with fail
            refine HPC2.out.mono ?_
            rintro e w5 ⟨rfl, hb5⟩
            have HB5 := hid_of (below_more HBG.out hb5)
            have kb : w5.cell? ⟨w.heap.size, 1, none⟩ = some (.int .i64 o.kind) := by have e := keep HBXG.out hb5; simp [World.cell?, e]
            clear hb5
            go_wp2_with fail
            refine (HC.out _ HB5.out).mono ?_
            rintro e w6 ⟨g6, c6, fs6, rest6, rfl, hfs6, hown6, hb6⟩
            have HZ : Hid (arOf fs6 = os ∧ OwnA g6 c6 fs6 rest6 w.heap.size w6.heap.size w6 ∧ Below w.heap.size w w6) := ⟨hfs6, hown6.wide HB5.out.size (Nat.le_refl _), below_more HB5.out hb6⟩
            clear hfs6 hown6 hb6
            go_wp2
            go_returns
            unfold PutAns
            rw [HE12.out.1, HE12.out.2]
            exact ⟨g6, c6, fs6, rest6, by rw [HL.out]; rfl, HZ.out.1, HZ.out.2.1, HZ.out.2.2⟩
          | true =>
            rw [hr] at HPC2
            have HRR := hid_of hr
            clear hr
            by_cases hzo : o.kind = 0
            · have qz : (o.kind == 0) = true := beq_iff_eq.2 hzo
              clear hzo
              have HPB : Hid (putB os o = false) := by show _ = _; unfold putB; rw [HOK.out, HFK.out, Int.toNat_natCast, HRR.out, qz]; simp
              obtain ⟨e1, e2⟩ := PutAns.no HPB.out
              have HE12 : Hid (putOf os o = os ∧ putI os o = -1) := ⟨e1, e2⟩
              clear e1 e2 HPB
              go_wp2_with fail
              refine HPC2.out.mono ?_
              rintro e w5 ⟨rfl, hb5⟩
              have HB5 := hid_of (below_more HBG.out hb5)
              have kb : w5.cell? ⟨w.heap.size, 1, none⟩ = some (.int .i64 o.kind) := by have e := keep HBXG.out hb5; simp [World.cell?, e]
              clear hb5
              go_wp2_with fail
              refine (HC.out _ HB5.out).mono ?_
              rintro e w6 ⟨g6, c6, fs6, rest6, rfl, hfs6, hown6, hb6⟩
              have HZ : Hid (arOf fs6 = os ∧ OwnA g6 c6 fs6 rest6 w.heap.size w6.heap.size w6 ∧ Below w.heap.size w w6) := ⟨hfs6, hown6.wide HB5.out.size (Nat.le_refl _), below_more HB5.out hb6⟩
              clear hfs6 hown6 hb6
              go_wp2
              go_returns
              unfold PutAns
              rw [HE12.out.1, HE12.out.2]
              exact ⟨g6, c6, fs6, rest6, by rw [HL.out]; rfl, HZ.out.1, HZ.out.2.1, HZ.out.2.2⟩
            · have qz : (o.kind == 0) = false := beq_eq_false_iff_ne.2 hzo
              clear hzo
              have HPB : Hid (putB os o = true) := by show _ = _; unfold putB; rw [HOK.out, HFK.out, Int.toNat_natCast, HRR.out, qz]; simp
              have e1 : putOf os o = putL os o k := by unfold putOf; rw [HPB.out, HFK.out, Int.toNat_natCast]; rfl
              have e2 : putI os o = k := by unfold putI; rw [HPB.out, HFK.out]; rfl
              have HE12 : Hid (putOf os o = putL os o k ∧ putI os o = k) := ⟨e1, e2⟩
              clear e1 e2 HPB
              go_wp2_with fail
              refine HPC2.out.mono ?_
              rintro e w5 ⟨rfl, hb5⟩
              have HZ := hid_of (show OwnA g c (fs.set k ⟨{ o with gen := x + 1 }, .slice x1 o.ls.length y1, .slice x2 o.ds.length y2, .slice x3 o.qs.length y3⟩) rest w.heap.size w5.heap.size w5 ∧ Below w.heap.size w w5 from ⟨(HGEN.out.on hb5).fit, below_more HBG.out hb5⟩)
              have kb : w5.cell? ⟨w.heap.size, 1, none⟩ = some (.int .i64 o.kind) := by have e := keep HBXG.out hb5; simp [World.cell?, e]
              clear hb5
              go_wp2
              go_returns
              unfold PutAns
              rw [HE12.out.1, HE12.out.2]
              exact ⟨g, c, _, rest, by rw [putL_length, HL.out]; rfl, HFIN.out, HZ.out.1, HZ.out.2⟩
        · have HN : Hid (∀ e, e ∈ os.take (k + 1) → fills e = false) := fills_next (by rw [HL.out]; exact hlt) hall.out (by unfold fills; simp [hgl])
          rw [hz] at c1
          generalize (obAt os k).gen = x at c0 hgl
          clear hz hall
          go_wp2
          exact ⟨⟨k + 1, by omega, by omega, by go_num, HN⟩, by simp [intOf]; omega⟩
      · have HN : Hid (∀ e, e ∈ os.take (k + 1) → fills e = false) := fills_next (by rw [HL.out]; exact hlt) hall.out (by unfold fills; rw [beq_eq_false_iff_ne.2 hz]; rfl)
        have qz : ((obAt os k).kind != 0) = true := by simp [bne, beq_eq_false_iff_ne.2 hz]
        clear hz hall
        go_wp2
        exact ⟨⟨k + 1, by omega, by omega, by go_num, HN⟩, by simp [intOf]; omega⟩
    · obtain rfl : k = 10 := by omega
      have hm1 : firstFill os = -1 := firstFill_no fun e he => hall.out e (by rw [← HL.out, List.take_length]; exact he)
      have HE12 : Hid (putOf os o = os ∧ putI os o = -1) := PutAns.no (by unfold putB; rw [hm1]; simp)
      clear hall hm1
      go_wp2
      go_returns
      unfold PutAns
      rw [HE12.out.1, HE12.out.2]
      exact ⟨g, c, fs, rest, by rw [HL.out]; rfl, HOWN.out.1, HOWN.out.2, HB02.out⟩
set_option maxHeartbeats 4000000 in
theorem specPut_any (v : Value) (os : List Ob) (o : Ob) (l d m : Value) (w : World) (hx : IsArena w v os) (hy : Lists w l d m o) (hn : os.length ≤ 1048576) (hs : Small8 os) (ho : obN o ≤ 1048576) (hf : AllFit os) (hfo : Fits o) :
    Calls Try.prog 62 #[v, obV o l d m] w fun e w' => PutAns (putOf os o) (putI os o) w e w' := by
  cases hv : arenaOk os with
  | true =>
    have hlen : os.length = 10 := by unfold arenaOk at hv; simp only [Bool.and_eq_true, decide_eq_true_eq] at hv; exact hv.1
    obtain ⟨a, cap, rfl, _, hel⟩ := id hx
    obtain ⟨p, _, _, _, rfl, _⟩ := hel 0 (by omega)
    rw [hlen] at hx ⊢
    exact specPut_go p cap os o l d m w hx hy hv hs ho hf hfo
  | false =>
    obtain ⟨e1, e2⟩ := PutAns.no (os := os) (o := o) (by unfold putB; rw [hv]; rfl)
    rw [e1, e2]
    have HC : Hid (∀ w', Below w.heap.size w w' → Calls Try.prog 71 #[v] w' fun e w'' => ArenaOwn os w' e w'') := fun w' hb => specCopyA_any _ os w' (hx.on hb) hn hs
    have HA : Hid (∀ w', Below w.heap.size w w' → Calls Try.prog 9 #[v] w' fun e w'' => e = .returned (.bool false) ∧ Below w'.heap.size w' w'') := fun w' hb => by
      have e := specArenaOk_any _ os w' (hx.on hb) hn hs hf
      rw [hv] at e
      exact e
    have HB0 : Hid (Below w.heap.size w (w.alloc (boxO o l d m))) := below_alloc w _
    clear hv e1 e2 hx hy hs hf
    go_enter Try.func62, Try.ntmps62
    go_wp2_with fail
    refine (HC.out _ HB0.out).mono ?_
    rintro e w1 ⟨g, c, fs, rest, rfl, hfs, hown, hb1⟩
    have HB1 : Hid (Below w.heap.size w w1) := below_more HB0.out hb1
    have HOWN : Hid (arOf fs = os ∧ OwnA g c fs rest w.heap.size w1.heap.size w1) := ⟨hfs, hown.wide HB0.out.size (Nat.le_refl _)⟩
    clear hfs hown hb1
    go_wp2_with fail
    refine (HA.out _ HB1.out).mono ?_
    rintro e w2 ⟨rfl, hb2⟩
    have HB2 : Hid (Below w1.heap.size w1 w2) := hb2
    clear hb2
    go_wp2
    go_returns
    exact ⟨g, c, fs, rest, rfl, HOWN.out.1, (HOWN.out.2.on HB2.out).wide (Nat.le_refl _) HB2.out.size, below_more HB1.out HB2.out⟩
end Go.Proofs.Ytgijpflojffckaa
