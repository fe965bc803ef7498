/-
  May anything flow: are all trees right, are there such places.
-/
import Derived.Test.YtfcenombphodbaaDoorWood5
import Derived.Test.YtfcenombphodbaaDoorTags
import Derived.Test.YtfcenombphodbaaDoorRegion3
import Derived.Test.YtfcenombphodbaaDoorIBack
namespace Go.Proofs.YtfcenombphodbaaDoor
open Go.RowKit
set_option linter.unusedVariables false
set_option maxRecDepth 100000

/-- Are all trees right, and no more than three? -/
def woodOk (tss : List (List Re)) : Bool := tss.all treeOk && decide (tss.length ≤ 3)
theorem all_ok {tss : List (List Re)} (h : ∀ i, i < tss.length → treeOk (treeAt tss i) = true) : tss.all treeOk = true :=
  List.all_eq_true.2 fun x hx => by
    obtain ⟨i, hi, rfl⟩ := List.getElem_of_mem hx
    rw [← treeAt_in hi]; exact h i hi
theorem all_no {tss : List (List Re)} {i : Nat} (hi : i < tss.length) (h : treeOk (treeAt tss i) = false) : tss.all treeOk = false :=
  List.all_eq_false.2 ⟨treeAt tss i, by rw [treeAt_in hi]; exact List.getElem_mem hi, by simp [h]⟩
theorem all_at {tss : List (List Re)} (h : tss.all treeOk = true) {i : Nat} (hi : i < tss.length) : treeOk (treeAt tss i) = true := by
  rw [treeAt_in hi]; exact List.all_eq_true.1 h _ (List.getElem_mem hi)
set_option maxHeartbeats 1000000 in
theorem specAll_any (v : Value) (tss : List (List Re)) (w : World) (hx : IsTrees w v tss) (hn : tss.length ≤ 1048576) (ht : ∀ i, (treeAt tss i).length ≤ 1048576) :
    Calls Tryd.prog 24 #[v] w fun e w' => e = .returned (.bool (woodOk tss)) ∧ Below w.heap.size w w' := by
  have hx0 := hx
  obtain ⟨a, cap, rfl, hcap, _⟩ := hx
  have HX : Hid (∀ wr, Below w.heap.size w wr → IsTrees wr (.slice a tss.length cap) tss) := fun wr hb => hx0.on hb
  have HT : Hid (∀ i, (treeAt tss i).length ≤ 1048576) := ht
  clear hx0 ht
  go_enter Tryd.func24, Tryd.ntmps24
  go_wp2
  go_loopw [3] (fun i wr => ∃ k : Nat, k ≤ tss.length ∧ i = .int .i64 k ∧ Hid (∀ i, i < k → treeOk (treeAt tss i) = true) ∧ Below w.heap.size w wr) (fun i _ => tss.length - (intOf i).toNat)
  case atStart => exact ⟨0, Nat.zero_le _, rfl, fun i hi => absurd hi (by omega), Below.refl _ _⟩
  case round =>
    obtain ⟨k, hk, rfl, hall, hnx⟩ := hrel
    by_cases hlt : k < tss.length
    · obtain ⟨p, q, u, rfl, hq, hc, hu⟩ := (HX.out wr hnx).at hlt
      have C := specOk_any u (treeAt tss k) wr hu (HT.out k)
      cases hok : treeOk (treeAt tss k) with
      | true =>
        rw [hok] at C
        have HA : Hid (∀ i, i < k + 1 → treeOk (treeAt tss i) = true) := fun i hi => by
          by_cases h : i = k
          · rw [h]; exact hok
          · exact hall.out i (by omega)
        clear hok hall
        go_wp2_with fail
        refine C.mono ?_
        rintro e w1 ⟨rfl, hb⟩
        have HN := hid_of (below_more hnx hb)
        clear C hb hnx hc hq
        go_wp2
        go_roundw
        case rel => exact ⟨k + 1, by omega, by go_num, HA, HN.out⟩
        case measure => simp [intOf]; omega
      | false =>
        rw [hok] at C
        have HE : Hid (woodOk tss = false) := by show woodOk tss = false; unfold woodOk; rw [all_no hlt hok]; rfl
        clear hok hall
        go_wp2_with fail
        refine C.mono ?_
        rintro e w1 ⟨rfl, hb⟩
        have HN := hid_of (below_more hnx hb)
        clear C hb hnx hc hq
        go_wp2
        go_ret
        exact ⟨by rw [HE.out]; rfl, HN.out⟩
    · obtain rfl : k = tss.length := by omega
      have HE : Hid (woodOk tss = decide (tss.length ≤ 3)) := by show woodOk tss = _; unfold woodOk; rw [all_ok hall.out]; rfl
      have HD : Hid (decide ((tss.length : Int) ≤ 3) = decide (tss.length ≤ 3)) := by show _ = _; by_cases h : tss.length ≤ 3 <;> simp [h] <;> omega
      clear hall
      go_wp2
      go_ret
      exact ⟨by rw [HE.out, ← HD.out]; rfl, hnx⟩
theorem isWrong_any (u : Value) (ts : List Re) (w : World) (hu : IsTree w u ts) (hn : ts.length ≤ 1048576) :
    Calls Tryd.prog 50 #[.agg #[u]] w fun e w' => e = .returned (.bool (!treeOk ts)) ∧ Below w.heap.size w w' := by
  have CT := fun w' (hb : Below w.heap.size w w') => implTreeOk_any u ts w' (hu.on hb) hn
  have HC : Hid (∀ w', Below w.heap.size w w' → _) := CT
  clear CT
  obtain ⟨a, cap, rfl, _, _⟩ := hu
  generalize treeOk ts = o at HC ⊢
  have hb0 : Below w.heap.size w (w.alloc (.cells #[.slice a ts.length cap] 34 (0, 0))) := below_alloc w _
  have HB0 : Hid (Below w.heap.size w _) := hb0
  clear hb0
  go_enter Tryd.func50, Tryd.ntmps50
  go_wp2_with fail
  refine (HC.out _ HB0.out).mono ?_
  rintro e w1 ⟨rfl, hb⟩
  have HB1 := hid_of (below_more HB0.out hb)
  clear HC HB0 hb
  go_wp2
  go_ret
  exact ⟨rfl, HB1.out⟩
abbrev wrongF : Value := .func (.func 50) #[] #[]
set_option maxHeartbeats 1000000 in
theorem indexW_any (p0 : Addr) (cap : Nat) (tss : List (List Re)) (w : World) (hx : IsTrees w (.slice (some p0) tss.length cap) tss) (hcap : tss.length ≤ cap) (hn : tss.length ≤ 1048576) (ht : ∀ i, (treeAt tss i).length ≤ 1048576) :
    Calls Tryd.prog 71 #[.slice (some p0) tss.length cap, wrongF] w fun e w' => (∃ x : Int, e = .returned (.int .i64 x) ∧ decide (0 ≤ x) = !(tss.all treeOk)) ∧ Below w.heap.size w w' := by
  have HX : Hid (∀ wr, Below w.heap.size w wr → IsTrees wr (.slice (some p0) tss.length cap) tss) := fun wr hb => hx.on hb
  have HT : Hid (∀ i, (treeAt tss i).length ≤ 1048576) := ht
  clear hx ht
  go_enter Tryd.func71, Tryd.ntmps71
  go_wp2
  go_loopw [8] (fun i wr => ∃ k : Nat, k ≤ tss.length ∧ i = .int .i64 k ∧ Hid (∀ i, i < k → treeOk (treeAt tss i) = true) ∧ Below w.heap.size w wr) (fun i _ => tss.length - (intOf i).toNat)
  case atStart => exact ⟨0, Nat.zero_le _, rfl, fun i hi => absurd hi (by omega), Below.refl _ _⟩
  case round =>
    obtain ⟨k, hk, rfl, hall, hnx⟩ := hrel
    by_cases hlt : k < tss.length
    · obtain ⟨p, q, u, hp, hq, hc, hu⟩ := (HX.out wr hnx).at hlt
      obtain rfl : p0 = p := by simpa using hp
      clear hp
      have C := isWrong_any u (treeAt tss k) wr hu (HT.out k)
      cases hok : treeOk (treeAt tss k) with
      | true =>
        rw [hok] at C
        have HA : Hid (∀ i, i < k + 1 → treeOk (treeAt tss i) = true) := fun i hi => by
          by_cases h : i = k
          · rw [h]; exact hok
          · exact hall.out i (by omega)
        clear hok hall
        go_wp2_with fail
        refine C.mono ?_
        rintro e w1 ⟨rfl, hb⟩
        have HN := hid_of (below_more hnx hb)
        clear C hb hnx hc hq
        go_wp2
        go_roundw
        case rel => exact ⟨k + 1, by omega, by go_num, HA, HN.out⟩
        case measure => simp [intOf]; omega
      | false =>
        rw [hok] at C
        have HE : Hid (decide (0 ≤ (k : Int)) = !(tss.all treeOk)) := by show _ = _; rw [all_no hlt hok]; simp
        clear hok hall
        go_wp2_with fail
        refine C.mono ?_
        rintro e w1 ⟨rfl, hb⟩
        have HN := hid_of (below_more hnx hb)
        clear C hb hnx hc hq
        go_wp2
        go_ret
        exact ⟨⟨_, rfl, HE.out⟩, HN.out⟩
    · obtain rfl : k = tss.length := by omega
      have HE : Hid (decide (0 ≤ (-1 : Int)) = !(tss.all treeOk)) := by show _ = _; rw [all_ok hall.out]; rfl
      clear hall
      go_wp2
      go_ret
      exact ⟨⟨_, rfl, HE.out⟩, hnx⟩
theorem contains_any (p0 : Addr) (cap : Nat) (tss : List (List Re)) (w : World) (hx : IsTrees w (.slice (some p0) tss.length cap) tss) (hcap : tss.length ≤ cap) (hn : tss.length ≤ 1048576) (ht : ∀ i, (treeAt tss i).length ≤ 1048576) :
    Calls Tryd.prog 49 #[.slice (some p0) tss.length cap, wrongF] w fun e w' => e = .returned (.bool (!(tss.all treeOk))) ∧ Below w.heap.size w w' := by
  have C := indexW_any p0 cap tss w hx hcap hn ht
  generalize (!(tss.all treeOk)) = o at C ⊢
  clear hx ht
  go_enter Tryd.func49, Tryd.ntmps49
  go_wp2_with fail
  refine C.mono ?_
  rintro e w1 ⟨⟨x, rfl, hx⟩, hb⟩
  clear C
  have HX : Hid (decide (0 ≤ x) = o) := hx
  clear hx
  go_wp2
  go_ret
  exact ⟨by rw [← HX.out]; rfl, hb⟩
/-- Is there tree P and tree p, and a place r that lives? -/
def mayB (tss : List (List Re)) (P r p q h k t : Int) : Bool := woodOk tss && (tapOk r p q h k t && ((decide (0 ≤ P) && decide (P < tss.length)) && (decide (p < tss.length) && liveIn (treeAt tss P.toNat) r)))
theorem mayB_len {tss : List (List Re)} {P r p q h k t : Int} (e : 3 < tss.length) : mayB tss P r p q h k t = false := by unfold mayB woodOk; rw [decide_eq_false (by omega : ¬ tss.length ≤ 3)]; simp
theorem mayB_all {tss : List (List Re)} {P r p q h k t : Int} (e : tss.all treeOk = false) : mayB tss P r p q h k t = false := by unfold mayB woodOk; rw [e]; rfl
theorem mayB_tap {tss : List (List Re)} {P r p q h k t : Int} (e : tapOk r p q h k t = false) : mayB tss P r p q h k t = false := by unfold mayB; rw [e]; simp
theorem mayB_low {tss : List (List Re)} {P r p q h k t : Int} (e : P < 0) : mayB tss P r p q h k t = false := by unfold mayB; rw [decide_eq_false (by omega : ¬ 0 ≤ P)]; simp
theorem mayB_high {tss : List (List Re)} {P r p q h k t : Int} (e : ¬ P < tss.length) : mayB tss P r p q h k t = false := by unfold mayB; rw [decide_eq_false e]; simp
theorem mayB_to {tss : List (List Re)} {P r p q h k t : Int} (e : ¬ p < tss.length) : mayB tss P r p q h k t = false := by unfold mayB; rw [decide_eq_false e]; simp
theorem mayB_rest {tss : List (List Re)} {m : Nat} {r p q h k t : Int} (h1 : tss.all treeOk = true) (h2 : tss.length ≤ 3) (h3 : tapOk r p q h k t = true) (h4 : m < tss.length) (h5 : p < tss.length) : mayB tss m r p q h k t = liveIn (treeAt tss m) r := by
  unfold mayB woodOk
  rw [h1, h3, decide_eq_true h2, decide_eq_true (by omega : (0 : Int) ≤ m), decide_eq_true (by omega : (m : Int) < tss.length), decide_eq_true h5]
  simp
set_option maxRecDepth 100000 in
set_option maxHeartbeats 8000000 in
theorem implMay_go (p0 : Addr) (n cap : Nat) (P r p q h k t : Int) (w : World) (o b : Bool) (m m5 qc : Nat) (qa qb : Addr) (hcap : n ≤ cap) (hn : n ≤ 3)
    (hcon : ∀ w', Below w.heap.size w w' → Calls Tryd.prog 49 #[.slice (some p0) n cap, wrongF] w' fun e w'' => e = .returned (.bool false) ∧ Below w'.heap.size w' w'')
    (htap : tapOk r p q h k t = true)
    (h3 : (o = false ∧ Hid (P < 0)) ∨ (o = false ∧ Hid (0 ≤ P ∧ (n : Int) ≤ P)) ∨ (o = false ∧ Hid (0 ≤ P ∧ P < (n : Int) ∧ (n : Int) ≤ p)) ∨ (P = (m : Int) ∧ b = o ∧ Hid (m < n ∧ p < (n : Int) ∧ p0.add m = qa ∧ (∀ w', Below w.heap.size w w' → w'.cell? qa = some (.slice (some qb) m5 qc) ∧ True) ∧ ∀ w', Below w.heap.size w w' → Calls Tryd.prog 51 #[.slice (some qb) m5 qc, .int .i64 r] w' fun e w'' => e = .returned (.bool b) ∧ Below w'.heap.size w' w''))) :
    Calls Tryd.prog 19 #[.slice (some p0) n cap, .int .i64 P, tapV r p q h k t] w fun e w' => e = .returned (.bool o) ∧ Below w.heap.size w w' := by
  have HCON : Hid (∀ w', Below w.heap.size w w' → _) := hcon
  have C1 := fun w => implTapOk_any r p q h k t w
  rw [htap] at C1
  have HNC : Hid (n ≤ cap) := hcap
  have hn3 : ¬ (3 < (n : Int)) := by omega
  have HB0 : Hid (Below w.heap.size w (w.alloc (boxT r p q h k t))) := below_alloc w _
  have HT0 : Hid (Tap6 (w.alloc (boxT r p q h k t)) w.heap.size r p q h k t) := ⟨heap_alloc_new w _⟩
  have H3 := hid_of h3
  clear hcon htap h3 hcap
  go_enter Tryd.func19, Tryd.ntmps19
  go_wp2_with fail
  refine (HCON.out _ HB0.out).mono ?_
  rintro e w1 ⟨rfl, hb⟩
  have HB1 := hid_of (below_more HB0.out hb)
  have HT1 := hid_of (HT0.out.on hb)
  clear HB0 HT0 hb HCON
  have t0 := HT1.out.c0
  have t1 := HT1.out.c1
  have t2 := HT1.out.c2
  have t3 := HT1.out.c3
  have t4 := HT1.out.c4
  have t5 := HT1.out.c5
  go_wp2_with fail
  refine (C1 _).mono ?_
  rintro e w2 ⟨rfl, hb⟩
  have HB2 := hid_of (below_more HB1.out hb)
  have HT2 := hid_of (HT1.out.on hb)
  clear HB1 HT1 hb C1 t0 t1 t2 t3 t4 t5 hn3
  dsimp only
  repeat (first | (with_reducible refine halt_region (id := 3) ?_) | go_values | go_skip | go_guarded | go_step | go_upon | go_back)
  unfold Halt0
  have HC3 : Hid ((o = false ∧ Hid (P < 0)) ∨ (o = false ∧ Hid (0 ≤ P ∧ (n : Int) ≤ P)) ∨ (o = false ∧ Hid (0 ≤ P ∧ P < (n : Int) ∧ (n : Int) ≤ p)) ∨ (P = (m : Int) ∧ b = o ∧ Hid (m < n ∧ p < (n : Int) ∧ p0.add m = qa ∧ (∀ w', Below w2.heap.size w2 w' → w'.cell? qa = some (.slice (some qb) m5 qc) ∧ True) ∧ ∀ w', Below w2.heap.size w2 w' → Calls Tryd.prog 51 #[.slice (some qb) m5 qc, .int .i64 r] w' fun e w'' => e = .returned (.bool b) ∧ Below w'.heap.size w' w''))) := by
    rcases H3.out with h | h | h | ⟨h1, h2, h3⟩
    · exact .inl h
    · exact .inr (.inl h)
    · exact .inr (.inr (.inl h))
    · exact .inr (.inr (.inr ⟨h1, h2, h3.out.1, h3.out.2.1, h3.out.2.2.1, fun w' hb => h3.out.2.2.2.1 w' (below_more HB2.out hb), fun w' hb => h3.out.2.2.2.2 w' (below_more HB2.out hb)⟩))
  clear H3
  obtain ⟨l, HL⟩ : ∃ l, Hid ((l = [.int .i64 P, .bool false, .bool false, undef, undef, undef, undef, .bool false, .bool false, undef, undef, undef, undef, undef, .bool false, .bool false, undef, undef, undef, undef, undef, undef, undef, undef, .bool false, .bool false] ∧ o = false ∧ Hid (P < 0)) ∨ (l = [.int .i64 P, .bool true, .bool true, .int .i64 P, .slice (some p0) n cap, .int .i64 (n : Int), .bool false, .bool false, .bool false, undef, undef, undef, undef, undef, .bool false, .bool false, undef, undef, undef, undef, undef, undef, undef, undef, .bool false, .bool false] ∧ o = false ∧ Hid (0 ≤ P ∧ (n : Int) ≤ P)) ∨ (l = [.int .i64 P, .bool true, .bool true, .int .i64 P, .slice (some p0) n cap, .int .i64 (n : Int), .bool true, .bool true, .bool true, .pointer (some ⟨w.heap.size, 1, none⟩), .int .i64 p, .slice (some p0) n cap, .int .i64 (n : Int), .bool false, .bool false, .bool false, undef, undef, undef, undef, undef, undef, undef, undef, .bool false, .bool false] ∧ o = false ∧ Hid (0 ≤ P ∧ P < (n : Int) ∧ (n : Int) ≤ p)) ∨ (l = [.int .i64 (m : Int), .bool true, .bool true, .int .i64 (m : Int), .slice (some p0) n cap, .int .i64 (n : Int), .bool true, .bool true, .bool true, .pointer (some ⟨w.heap.size, 1, none⟩), .int .i64 p, .slice (some p0) n cap, .int .i64 (n : Int), .bool true, .bool true, .bool true, .slice (some p0) n cap, .int .i64 (m : Int), .pointer (some qa), .pointer (some qa), .slice (some qb) m5 qc, .pointer (some ⟨w.heap.size, 0, none⟩), .int .i64 r, .bool b, .bool b, .bool b] ∧ P = (m : Int) ∧ b = o ∧ Hid (m < n ∧ p < (n : Int) ∧ p0.add m = qa ∧ (∀ w', Below w2.heap.size w2 w' → w'.cell? qa = some (.slice (some qb) m5 qc) ∧ True) ∧ ∀ w', Below w2.heap.size w2 w' → Calls Tryd.prog 51 #[.slice (some qb) m5 qc, .int .i64 r] w' fun e w'' => e = .returned (.bool b) ∧ Below w'.heap.size w' w''))) := by
    rcases HC3.out with h | h | h | h
    · exact ⟨_, .inl ⟨rfl, h⟩⟩
    · exact ⟨_, .inr (.inl ⟨rfl, h⟩)⟩
    · exact ⟨_, .inr (.inr (.inl ⟨rfl, h⟩))⟩
    · exact ⟨_, .inr (.inr (.inr ⟨rfl, h⟩))⟩
  refine wp_region_whole (by kernel_rfl) (by kernel_rfl) (by kernel_rfl) (by kernel_rfl) (Flat (fun wz => Below w.heap.size w wz ∧ Tap6 wz w.heap.size r p q h k t ∧ Below w2.heap.size w2 wz) (gVals l)) (flat_start ⟨HB2.out.drew, HT2.out.on (below_draw _), below_draw _⟩) ?_ ?_
  · refine ⟨?_, ?_, ?_, ?_, ?_, ?_, ?_, ?_, ?_, ?_, ?_, ?_, ?_, ?_, ?_, ?_, ?_, ?_, ?_, ?_, ?_, ?_, ?_, ?_, ?_, ?_, trivial⟩
    · intro b0 us wz L hslot hoth hLi hR hcl hdo K hK
      rcases HL.out with ⟨rfl, rfl, hf⟩ | ⟨rfl, rfl, hf⟩ | ⟨rfl, rfl, hf⟩ | ⟨rfl, rfl, rfl, hf⟩
      · have s1 : b0.tmps.getD 1 undef = .int .i64 P := hoth 1 (by rfl)
        clear hslot hoth hdo hcl hLi
        refine guard_none (by rfl) ?_
        go_simp
        exact hK _ _ (flat_mark (hR.1) (fun _ _ h => h) hR.2 rfl)
      · have s1 : b0.tmps.getD 1 undef = .int .i64 P := hoth 1 (by rfl)
        clear hslot hoth hdo hcl hLi
        refine guard_none (by rfl) ?_
        go_simp
        exact hK _ _ (flat_mark (hR.1) (fun _ _ h => h) hR.2 rfl)
      · have s1 : b0.tmps.getD 1 undef = .int .i64 P := hoth 1 (by rfl)
        clear hslot hoth hdo hcl hLi
        refine guard_none (by rfl) ?_
        go_simp
        exact hK _ _ (flat_mark (hR.1) (fun _ _ h => h) hR.2 rfl)
      · have s1 : b0.tmps.getD 1 undef = .int .i64 (m : Int) := hoth 1 (by rfl)
        clear hslot hoth hdo hcl hLi
        refine guard_none (by rfl) ?_
        go_simp
        exact hK _ _ (flat_mark (hR.1) (fun _ _ h => h) hR.2 rfl)
    · intro b0 us wz L hslot hoth hLi hR hcl hdo K hK
      rcases HL.out with ⟨rfl, rfl, hf⟩ | ⟨rfl, rfl, hf⟩ | ⟨rfl, rfl, hf⟩ | ⟨rfl, rfl, rfl, hf⟩
      · have s19 : b0.tmps.getD 19 undef = .int .i64 P := (hslot 0 19 (by rfl)).trans (hR.2 0 (done_at hdo 0 (by rfl)))
        have hP : ¬ (0 ≤ P) := by have := hf.out; omega
        clear hslot hoth hdo hcl hLi
        refine guard_none (by rfl) ?_
        go_simp
        exact hK _ _ (flat_mark (hR.1) (fun _ _ h => h) hR.2 rfl)
      · have s19 : b0.tmps.getD 19 undef = .int .i64 P := (hslot 0 19 (by rfl)).trans (hR.2 0 (done_at hdo 0 (by rfl)))
        have hP : 0 ≤ P := hf.out.1
        clear hslot hoth hdo hcl hLi
        refine guard_none (by rfl) ?_
        go_simp
        exact hK _ _ (flat_mark (hR.1) (fun _ _ h => h) hR.2 rfl)
      · have s19 : b0.tmps.getD 19 undef = .int .i64 P := (hslot 0 19 (by rfl)).trans (hR.2 0 (done_at hdo 0 (by rfl)))
        have hP : 0 ≤ P := by have := hf.out; omega
        clear hslot hoth hdo hcl hLi
        refine guard_none (by rfl) ?_
        go_simp
        exact hK _ _ (flat_mark (hR.1) (fun _ _ h => h) hR.2 rfl)
      · have s19 : b0.tmps.getD 19 undef = .int .i64 (m : Int) := (hslot 0 19 (by rfl)).trans (hR.2 0 (done_at hdo 0 (by rfl)))
        have hP : (0 : Int) ≤ (m : Int) := by omega
        clear hslot hoth hdo hcl hLi
        refine guard_none (by rfl) ?_
        go_simp
        exact hK _ _ (flat_mark (hR.1) (fun _ _ h => h) hR.2 rfl)
    · intro b0 us wz L hslot hoth hLi hR hcl hdo K hK
      rcases HL.out with ⟨rfl, rfl, hf⟩ | ⟨rfl, rfl, hf⟩ | ⟨rfl, rfl, hf⟩ | ⟨rfl, rfl, rfl, hf⟩
      · have s20 : b0.tmps.getD 20 undef = .bool false := (hslot 1 20 (by rfl)).trans (hR.2 1 (done_at hdo 1 (by rfl)))
        clear hslot hoth hdo hcl hLi
        refine guard_none (by rfl) ?_
        go_simp
        exact hK _ _ (flat_mark (hR.1) (fun _ _ h => h) hR.2 rfl)
      · have s20 : b0.tmps.getD 20 undef = .bool true := (hslot 1 20 (by rfl)).trans (hR.2 1 (done_at hdo 1 (by rfl)))
        clear hslot hoth hdo hcl hLi
        refine guard_none (by rfl) ?_
        go_simp
        exact hK _ _ (flat_mark (hR.1) (fun _ _ h => h) hR.2 rfl)
      · have s20 : b0.tmps.getD 20 undef = .bool true := (hslot 1 20 (by rfl)).trans (hR.2 1 (done_at hdo 1 (by rfl)))
        clear hslot hoth hdo hcl hLi
        refine guard_none (by rfl) ?_
        go_simp
        exact hK _ _ (flat_mark (hR.1) (fun _ _ h => h) hR.2 rfl)
      · have s20 : b0.tmps.getD 20 undef = .bool true := (hslot 1 20 (by rfl)).trans (hR.2 1 (done_at hdo 1 (by rfl)))
        clear hslot hoth hdo hcl hLi
        refine guard_none (by rfl) ?_
        go_simp
        exact hK _ _ (flat_mark (hR.1) (fun _ _ h => h) hR.2 rfl)
    · intro b0 us wz L hslot hoth hLi hR hcl hdo K hK
      rcases HL.out with ⟨rfl, rfl, hf⟩ | ⟨rfl, rfl, hf⟩ | ⟨rfl, rfl, hf⟩ | ⟨rfl, rfl, rfl, hf⟩
      · have gg : us 2 = .bool false := hR.2 2 (done_at hdo 2 (by rfl))
        refine guard_off (j := 2) (want := true) (d := 21) (by rfl) (by rfl) gg (by rfl) ?_
        exact hK undef _ (flat_mark (hR.1) (fun _ _ h => h) hR.2 rfl)
      · have gg : us 2 = .bool true := hR.2 2 (done_at hdo 2 (by rfl))
        have s1 : b0.tmps.getD 1 undef = .int .i64 P := hoth 1 (by rfl)
        clear hslot hoth hdo hcl hLi
        refine guard_on (j := 2) (want := true) (d := 21) (by rfl) (by rfl) gg ?_
        go_simp
        exact hK _ _ (flat_mark (hR.1) (fun _ _ h => h) hR.2 rfl)
      · have gg : us 2 = .bool true := hR.2 2 (done_at hdo 2 (by rfl))
        have s1 : b0.tmps.getD 1 undef = .int .i64 P := hoth 1 (by rfl)
        clear hslot hoth hdo hcl hLi
        refine guard_on (j := 2) (want := true) (d := 21) (by rfl) (by rfl) gg ?_
        go_simp
        exact hK _ _ (flat_mark (hR.1) (fun _ _ h => h) hR.2 rfl)
      · have gg : us 2 = .bool true := hR.2 2 (done_at hdo 2 (by rfl))
        have s1 : b0.tmps.getD 1 undef = .int .i64 (m : Int) := hoth 1 (by rfl)
        clear hslot hoth hdo hcl hLi
        refine guard_on (j := 2) (want := true) (d := 21) (by rfl) (by rfl) gg ?_
        go_simp
        exact hK _ _ (flat_mark (hR.1) (fun _ _ h => h) hR.2 rfl)
    · intro b0 us wz L hslot hoth hLi hR hcl hdo K hK
      rcases HL.out with ⟨rfl, rfl, hf⟩ | ⟨rfl, rfl, hf⟩ | ⟨rfl, rfl, hf⟩ | ⟨rfl, rfl, rfl, hf⟩
      · have gg : us 2 = .bool false := hR.2 2 (done_at hdo 2 (by rfl))
        refine guard_off (j := 2) (want := true) (d := 21) (by rfl) (by rfl) gg (by rfl) ?_
        exact hK undef _ (flat_mark (hR.1) (fun _ _ h => h) hR.2 rfl)
      · have gg : us 2 = .bool true := hR.2 2 (done_at hdo 2 (by rfl))
        have s0 : b0.tmps.getD 0 undef = .slice (some p0) n cap := hoth 0 (by rfl)
        clear hslot hoth hdo hcl hLi
        refine guard_on (j := 2) (want := true) (d := 21) (by rfl) (by rfl) gg ?_
        go_simp
        exact hK _ _ (flat_mark (hR.1) (fun _ _ h => h) hR.2 rfl)
      · have gg : us 2 = .bool true := hR.2 2 (done_at hdo 2 (by rfl))
        have s0 : b0.tmps.getD 0 undef = .slice (some p0) n cap := hoth 0 (by rfl)
        clear hslot hoth hdo hcl hLi
        refine guard_on (j := 2) (want := true) (d := 21) (by rfl) (by rfl) gg ?_
        go_simp
        exact hK _ _ (flat_mark (hR.1) (fun _ _ h => h) hR.2 rfl)
      · have gg : us 2 = .bool true := hR.2 2 (done_at hdo 2 (by rfl))
        have s0 : b0.tmps.getD 0 undef = .slice (some p0) n cap := hoth 0 (by rfl)
        clear hslot hoth hdo hcl hLi
        refine guard_on (j := 2) (want := true) (d := 21) (by rfl) (by rfl) gg ?_
        go_simp
        exact hK _ _ (flat_mark (hR.1) (fun _ _ h => h) hR.2 rfl)
    · intro b0 us wz L hslot hoth hLi hR hcl hdo K hK
      rcases HL.out with ⟨rfl, rfl, hf⟩ | ⟨rfl, rfl, hf⟩ | ⟨rfl, rfl, hf⟩ | ⟨rfl, rfl, rfl, hf⟩
      · have gg : us 2 = .bool false := hR.2 2 (done_at hdo 2 (by rfl))
        refine guard_off (j := 2) (want := true) (d := 21) (by rfl) (by rfl) gg (by rfl) ?_
        exact hK undef _ (flat_mark (hR.1) (fun _ _ h => h) hR.2 rfl)
      · have gg : us 2 = .bool true := hR.2 2 (done_at hdo 2 (by rfl))
        have s23 : b0.tmps.getD 23 undef = .slice (some p0) n cap := (hslot 4 23 (by rfl)).trans (hR.2 4 (done_at hdo 4 (by rfl)))
        clear hslot hoth hdo hcl hLi
        refine guard_on (j := 2) (want := true) (d := 21) (by rfl) (by rfl) gg ?_
        go_simp
        exact hK _ _ (flat_mark (hR.1) (fun _ _ h => h) hR.2 rfl)
      · have gg : us 2 = .bool true := hR.2 2 (done_at hdo 2 (by rfl))
        have s23 : b0.tmps.getD 23 undef = .slice (some p0) n cap := (hslot 4 23 (by rfl)).trans (hR.2 4 (done_at hdo 4 (by rfl)))
        clear hslot hoth hdo hcl hLi
        refine guard_on (j := 2) (want := true) (d := 21) (by rfl) (by rfl) gg ?_
        go_simp
        exact hK _ _ (flat_mark (hR.1) (fun _ _ h => h) hR.2 rfl)
      · have gg : us 2 = .bool true := hR.2 2 (done_at hdo 2 (by rfl))
        have s23 : b0.tmps.getD 23 undef = .slice (some p0) n cap := (hslot 4 23 (by rfl)).trans (hR.2 4 (done_at hdo 4 (by rfl)))
        clear hslot hoth hdo hcl hLi
        refine guard_on (j := 2) (want := true) (d := 21) (by rfl) (by rfl) gg ?_
        go_simp
        exact hK _ _ (flat_mark (hR.1) (fun _ _ h => h) hR.2 rfl)
    · intro b0 us wz L hslot hoth hLi hR hcl hdo K hK
      rcases HL.out with ⟨rfl, rfl, hf⟩ | ⟨rfl, rfl, hf⟩ | ⟨rfl, rfl, hf⟩ | ⟨rfl, rfl, rfl, hf⟩
      · have gg : us 2 = .bool false := hR.2 2 (done_at hdo 2 (by rfl))
        refine guard_off (j := 2) (want := true) (d := 21) (by rfl) (by rfl) gg (by rfl) ?_
        exact hK undef _ (flat_mark (hR.1) (fun _ _ h => h) hR.2 rfl)
      · have gg : us 2 = .bool true := hR.2 2 (done_at hdo 2 (by rfl))
        have s22 : b0.tmps.getD 22 undef = .int .i64 P := (hslot 3 22 (by rfl)).trans (hR.2 3 (done_at hdo 3 (by rfl)))
        have s24 : b0.tmps.getD 24 undef = .int .i64 (n : Int) := (hslot 5 24 (by rfl)).trans (hR.2 5 (done_at hdo 5 (by rfl)))
        have hP : ¬ (P < (n : Int)) := by have := hf.out; omega
        clear hslot hoth hdo hcl hLi
        refine guard_on (j := 2) (want := true) (d := 21) (by rfl) (by rfl) gg ?_
        go_simp
        exact hK _ _ (flat_mark (hR.1) (fun _ _ h => h) hR.2 rfl)
      · have gg : us 2 = .bool true := hR.2 2 (done_at hdo 2 (by rfl))
        have s22 : b0.tmps.getD 22 undef = .int .i64 P := (hslot 3 22 (by rfl)).trans (hR.2 3 (done_at hdo 3 (by rfl)))
        have s24 : b0.tmps.getD 24 undef = .int .i64 (n : Int) := (hslot 5 24 (by rfl)).trans (hR.2 5 (done_at hdo 5 (by rfl)))
        have hP : P < (n : Int) := by have := hf.out; omega
        clear hslot hoth hdo hcl hLi
        refine guard_on (j := 2) (want := true) (d := 21) (by rfl) (by rfl) gg ?_
        go_simp
        exact hK _ _ (flat_mark (hR.1) (fun _ _ h => h) hR.2 rfl)
      · have gg : us 2 = .bool true := hR.2 2 (done_at hdo 2 (by rfl))
        have s22 : b0.tmps.getD 22 undef = .int .i64 (m : Int) := (hslot 3 22 (by rfl)).trans (hR.2 3 (done_at hdo 3 (by rfl)))
        have s24 : b0.tmps.getD 24 undef = .int .i64 (n : Int) := (hslot 5 24 (by rfl)).trans (hR.2 5 (done_at hdo 5 (by rfl)))
        have hP : (m : Int) < (n : Int) := by have := hf.out; omega
        clear hslot hoth hdo hcl hLi
        refine guard_on (j := 2) (want := true) (d := 21) (by rfl) (by rfl) gg ?_
        go_simp
        exact hK _ _ (flat_mark (hR.1) (fun _ _ h => h) hR.2 rfl)
    · intro b0 us wz L hslot hoth hLi hR hcl hdo K hK
      rcases HL.out with ⟨rfl, rfl, hf⟩ | ⟨rfl, rfl, hf⟩ | ⟨rfl, rfl, hf⟩ | ⟨rfl, rfl, rfl, hf⟩
      · have s21 : b0.tmps.getD 21 undef = .bool false := (hslot 2 21 (by rfl)).trans (hR.2 2 (done_at hdo 2 (by rfl)))
        have s25 : b0.tmps.getD 25 undef = undef := (hslot 6 25 (by rfl)).trans (hR.2 6 (done_at hdo 6 (by rfl)))
        clear hslot hoth hdo hcl hLi
        refine guard_none (by rfl) ?_
        go_simp
        exact hK _ _ (flat_mark (hR.1) (fun _ _ h => h) hR.2 rfl)
      · have s21 : b0.tmps.getD 21 undef = .bool true := (hslot 2 21 (by rfl)).trans (hR.2 2 (done_at hdo 2 (by rfl)))
        have s25 : b0.tmps.getD 25 undef = .bool false := (hslot 6 25 (by rfl)).trans (hR.2 6 (done_at hdo 6 (by rfl)))
        clear hslot hoth hdo hcl hLi
        refine guard_none (by rfl) ?_
        go_simp
        exact hK _ _ (flat_mark (hR.1) (fun _ _ h => h) hR.2 rfl)
      · have s21 : b0.tmps.getD 21 undef = .bool true := (hslot 2 21 (by rfl)).trans (hR.2 2 (done_at hdo 2 (by rfl)))
        have s25 : b0.tmps.getD 25 undef = .bool true := (hslot 6 25 (by rfl)).trans (hR.2 6 (done_at hdo 6 (by rfl)))
        clear hslot hoth hdo hcl hLi
        refine guard_none (by rfl) ?_
        go_simp
        exact hK _ _ (flat_mark (hR.1) (fun _ _ h => h) hR.2 rfl)
      · have s21 : b0.tmps.getD 21 undef = .bool true := (hslot 2 21 (by rfl)).trans (hR.2 2 (done_at hdo 2 (by rfl)))
        have s25 : b0.tmps.getD 25 undef = .bool true := (hslot 6 25 (by rfl)).trans (hR.2 6 (done_at hdo 6 (by rfl)))
        clear hslot hoth hdo hcl hLi
        refine guard_none (by rfl) ?_
        go_simp
        exact hK _ _ (flat_mark (hR.1) (fun _ _ h => h) hR.2 rfl)
    · intro b0 us wz L hslot hoth hLi hR hcl hdo K hK
      rcases HL.out with ⟨rfl, rfl, hf⟩ | ⟨rfl, rfl, hf⟩ | ⟨rfl, rfl, hf⟩ | ⟨rfl, rfl, rfl, hf⟩
      · have s26 : b0.tmps.getD 26 undef = .bool false := (hslot 7 26 (by rfl)).trans (hR.2 7 (done_at hdo 7 (by rfl)))
        clear hslot hoth hdo hcl hLi
        refine guard_none (by rfl) ?_
        go_simp
        exact hK _ _ (flat_mark (hR.1) (fun _ _ h => h) hR.2 rfl)
      · have s26 : b0.tmps.getD 26 undef = .bool false := (hslot 7 26 (by rfl)).trans (hR.2 7 (done_at hdo 7 (by rfl)))
        clear hslot hoth hdo hcl hLi
        refine guard_none (by rfl) ?_
        go_simp
        exact hK _ _ (flat_mark (hR.1) (fun _ _ h => h) hR.2 rfl)
      · have s26 : b0.tmps.getD 26 undef = .bool true := (hslot 7 26 (by rfl)).trans (hR.2 7 (done_at hdo 7 (by rfl)))
        clear hslot hoth hdo hcl hLi
        refine guard_none (by rfl) ?_
        go_simp
        exact hK _ _ (flat_mark (hR.1) (fun _ _ h => h) hR.2 rfl)
      · have s26 : b0.tmps.getD 26 undef = .bool true := (hslot 7 26 (by rfl)).trans (hR.2 7 (done_at hdo 7 (by rfl)))
        clear hslot hoth hdo hcl hLi
        refine guard_none (by rfl) ?_
        go_simp
        exact hK _ _ (flat_mark (hR.1) (fun _ _ h => h) hR.2 rfl)
    · intro b0 us wz L hslot hoth hLi hR hcl hdo K hK
      rcases HL.out with ⟨rfl, rfl, hf⟩ | ⟨rfl, rfl, hf⟩ | ⟨rfl, rfl, hf⟩ | ⟨rfl, rfl, rfl, hf⟩
      · have gg : us 8 = .bool false := hR.2 8 (done_at hdo 8 (by rfl))
        refine guard_off (j := 8) (want := true) (d := 27) (by rfl) (by rfl) gg (by rfl) ?_
        exact hK undef _ (flat_mark (hR.1) (fun _ _ h => h) hR.2 rfl)
      · have gg : us 8 = .bool false := hR.2 8 (done_at hdo 8 (by rfl))
        refine guard_off (j := 8) (want := true) (d := 27) (by rfl) (by rfl) gg (by rfl) ?_
        exact hK undef _ (flat_mark (hR.1) (fun _ _ h => h) hR.2 rfl)
      · have gg : us 8 = .bool true := hR.2 8 (done_at hdo 8 (by rfl))
        have s5 : b0.tmps.getD 5 undef = .pointer (some ⟨w.heap.size, 0, none⟩) := hoth 5 (by rfl)
        clear hslot hoth hdo hcl hLi
        refine guard_on (j := 8) (want := true) (d := 27) (by rfl) (by rfl) gg ?_
        go_simp
        exact hK _ _ (flat_mark (hR.1) (fun _ _ h => h) hR.2 rfl)
      · have gg : us 8 = .bool true := hR.2 8 (done_at hdo 8 (by rfl))
        have s5 : b0.tmps.getD 5 undef = .pointer (some ⟨w.heap.size, 0, none⟩) := hoth 5 (by rfl)
        clear hslot hoth hdo hcl hLi
        refine guard_on (j := 8) (want := true) (d := 27) (by rfl) (by rfl) gg ?_
        go_simp
        exact hK _ _ (flat_mark (hR.1) (fun _ _ h => h) hR.2 rfl)
    · intro b0 us wz L hslot hoth hLi hR hcl hdo K hK
      rcases HL.out with ⟨rfl, rfl, hf⟩ | ⟨rfl, rfl, hf⟩ | ⟨rfl, rfl, hf⟩ | ⟨rfl, rfl, rfl, hf⟩
      · have gg : us 8 = .bool false := hR.2 8 (done_at hdo 8 (by rfl))
        refine guard_off (j := 8) (want := true) (d := 27) (by rfl) (by rfl) gg (by rfl) ?_
        exact hK undef _ (flat_mark (hR.1) (fun _ _ h => h) hR.2 rfl)
      · have gg : us 8 = .bool false := hR.2 8 (done_at hdo 8 (by rfl))
        refine guard_off (j := 8) (want := true) (d := 27) (by rfl) (by rfl) gg (by rfl) ?_
        exact hK undef _ (flat_mark (hR.1) (fun _ _ h => h) hR.2 rfl)
      · have gg : us 8 = .bool true := hR.2 8 (done_at hdo 8 (by rfl))
        have s28 : b0.tmps.getD 28 undef = .pointer (some ⟨w.heap.size, 1, none⟩) := (hslot 9 28 (by rfl)).trans (hR.2 9 (done_at hdo 9 (by rfl)))
        have t0 := (hR.1.2.1).c0
        have t1 := (hR.1.2.1).c1
        have t2 := (hR.1.2.1).c2
        have t3 := (hR.1.2.1).c3
        have t4 := (hR.1.2.1).c4
        have t5 := (hR.1.2.1).c5
        clear hslot hoth hdo hcl hLi
        refine guard_on (j := 8) (want := true) (d := 27) (by rfl) (by rfl) gg ?_
        go_simp
        exact hK _ _ (flat_mark (hR.1) (fun _ _ h => h) hR.2 rfl)
      · have gg : us 8 = .bool true := hR.2 8 (done_at hdo 8 (by rfl))
        have s28 : b0.tmps.getD 28 undef = .pointer (some ⟨w.heap.size, 1, none⟩) := (hslot 9 28 (by rfl)).trans (hR.2 9 (done_at hdo 9 (by rfl)))
        have t0 := (hR.1.2.1).c0
        have t1 := (hR.1.2.1).c1
        have t2 := (hR.1.2.1).c2
        have t3 := (hR.1.2.1).c3
        have t4 := (hR.1.2.1).c4
        have t5 := (hR.1.2.1).c5
        clear hslot hoth hdo hcl hLi
        refine guard_on (j := 8) (want := true) (d := 27) (by rfl) (by rfl) gg ?_
        go_simp
        exact hK _ _ (flat_mark (hR.1) (fun _ _ h => h) hR.2 rfl)
    · intro b0 us wz L hslot hoth hLi hR hcl hdo K hK
      rcases HL.out with ⟨rfl, rfl, hf⟩ | ⟨rfl, rfl, hf⟩ | ⟨rfl, rfl, hf⟩ | ⟨rfl, rfl, rfl, hf⟩
      · have gg : us 8 = .bool false := hR.2 8 (done_at hdo 8 (by rfl))
        refine guard_off (j := 8) (want := true) (d := 27) (by rfl) (by rfl) gg (by rfl) ?_
        exact hK undef _ (flat_mark (hR.1) (fun _ _ h => h) hR.2 rfl)
      · have gg : us 8 = .bool false := hR.2 8 (done_at hdo 8 (by rfl))
        refine guard_off (j := 8) (want := true) (d := 27) (by rfl) (by rfl) gg (by rfl) ?_
        exact hK undef _ (flat_mark (hR.1) (fun _ _ h => h) hR.2 rfl)
      · have gg : us 8 = .bool true := hR.2 8 (done_at hdo 8 (by rfl))
        have s0 : b0.tmps.getD 0 undef = .slice (some p0) n cap := hoth 0 (by rfl)
        clear hslot hoth hdo hcl hLi
        refine guard_on (j := 8) (want := true) (d := 27) (by rfl) (by rfl) gg ?_
        go_simp
        exact hK _ _ (flat_mark (hR.1) (fun _ _ h => h) hR.2 rfl)
      · have gg : us 8 = .bool true := hR.2 8 (done_at hdo 8 (by rfl))
        have s0 : b0.tmps.getD 0 undef = .slice (some p0) n cap := hoth 0 (by rfl)
        clear hslot hoth hdo hcl hLi
        refine guard_on (j := 8) (want := true) (d := 27) (by rfl) (by rfl) gg ?_
        go_simp
        exact hK _ _ (flat_mark (hR.1) (fun _ _ h => h) hR.2 rfl)
    · intro b0 us wz L hslot hoth hLi hR hcl hdo K hK
      rcases HL.out with ⟨rfl, rfl, hf⟩ | ⟨rfl, rfl, hf⟩ | ⟨rfl, rfl, hf⟩ | ⟨rfl, rfl, rfl, hf⟩
      · have gg : us 8 = .bool false := hR.2 8 (done_at hdo 8 (by rfl))
        refine guard_off (j := 8) (want := true) (d := 27) (by rfl) (by rfl) gg (by rfl) ?_
        exact hK undef _ (flat_mark (hR.1) (fun _ _ h => h) hR.2 rfl)
      · have gg : us 8 = .bool false := hR.2 8 (done_at hdo 8 (by rfl))
        refine guard_off (j := 8) (want := true) (d := 27) (by rfl) (by rfl) gg (by rfl) ?_
        exact hK undef _ (flat_mark (hR.1) (fun _ _ h => h) hR.2 rfl)
      · have gg : us 8 = .bool true := hR.2 8 (done_at hdo 8 (by rfl))
        have s30 : b0.tmps.getD 30 undef = .slice (some p0) n cap := (hslot 11 30 (by rfl)).trans (hR.2 11 (done_at hdo 11 (by rfl)))
        clear hslot hoth hdo hcl hLi
        refine guard_on (j := 8) (want := true) (d := 27) (by rfl) (by rfl) gg ?_
        go_simp
        exact hK _ _ (flat_mark (hR.1) (fun _ _ h => h) hR.2 rfl)
      · have gg : us 8 = .bool true := hR.2 8 (done_at hdo 8 (by rfl))
        have s30 : b0.tmps.getD 30 undef = .slice (some p0) n cap := (hslot 11 30 (by rfl)).trans (hR.2 11 (done_at hdo 11 (by rfl)))
        clear hslot hoth hdo hcl hLi
        refine guard_on (j := 8) (want := true) (d := 27) (by rfl) (by rfl) gg ?_
        go_simp
        exact hK _ _ (flat_mark (hR.1) (fun _ _ h => h) hR.2 rfl)
    · intro b0 us wz L hslot hoth hLi hR hcl hdo K hK
      rcases HL.out with ⟨rfl, rfl, hf⟩ | ⟨rfl, rfl, hf⟩ | ⟨rfl, rfl, hf⟩ | ⟨rfl, rfl, rfl, hf⟩
      · have gg : us 8 = .bool false := hR.2 8 (done_at hdo 8 (by rfl))
        refine guard_off (j := 8) (want := true) (d := 27) (by rfl) (by rfl) gg (by rfl) ?_
        exact hK undef _ (flat_mark (hR.1) (fun _ _ h => h) hR.2 rfl)
      · have gg : us 8 = .bool false := hR.2 8 (done_at hdo 8 (by rfl))
        refine guard_off (j := 8) (want := true) (d := 27) (by rfl) (by rfl) gg (by rfl) ?_
        exact hK undef _ (flat_mark (hR.1) (fun _ _ h => h) hR.2 rfl)
      · have gg : us 8 = .bool true := hR.2 8 (done_at hdo 8 (by rfl))
        have s29 : b0.tmps.getD 29 undef = .int .i64 p := (hslot 10 29 (by rfl)).trans (hR.2 10 (done_at hdo 10 (by rfl)))
        have s31 : b0.tmps.getD 31 undef = .int .i64 (n : Int) := (hslot 12 31 (by rfl)).trans (hR.2 12 (done_at hdo 12 (by rfl)))
        have hp : ¬ (p < (n : Int)) := by have := hf.out; omega
        clear hslot hoth hdo hcl hLi
        refine guard_on (j := 8) (want := true) (d := 27) (by rfl) (by rfl) gg ?_
        go_simp
        exact hK _ _ (flat_mark (hR.1) (fun _ _ h => h) hR.2 rfl)
      · have gg : us 8 = .bool true := hR.2 8 (done_at hdo 8 (by rfl))
        have s29 : b0.tmps.getD 29 undef = .int .i64 p := (hslot 10 29 (by rfl)).trans (hR.2 10 (done_at hdo 10 (by rfl)))
        have s31 : b0.tmps.getD 31 undef = .int .i64 (n : Int) := (hslot 12 31 (by rfl)).trans (hR.2 12 (done_at hdo 12 (by rfl)))
        have hp : p < (n : Int) := hf.out.2.1
        clear hslot hoth hdo hcl hLi
        refine guard_on (j := 8) (want := true) (d := 27) (by rfl) (by rfl) gg ?_
        go_simp
        exact hK _ _ (flat_mark (hR.1) (fun _ _ h => h) hR.2 rfl)
    · intro b0 us wz L hslot hoth hLi hR hcl hdo K hK
      rcases HL.out with ⟨rfl, rfl, hf⟩ | ⟨rfl, rfl, hf⟩ | ⟨rfl, rfl, hf⟩ | ⟨rfl, rfl, rfl, hf⟩
      · have s27 : b0.tmps.getD 27 undef = .bool false := (hslot 8 27 (by rfl)).trans (hR.2 8 (done_at hdo 8 (by rfl)))
        have s32 : b0.tmps.getD 32 undef = undef := (hslot 13 32 (by rfl)).trans (hR.2 13 (done_at hdo 13 (by rfl)))
        clear hslot hoth hdo hcl hLi
        refine guard_none (by rfl) ?_
        go_simp
        exact hK _ _ (flat_mark (hR.1) (fun _ _ h => h) hR.2 rfl)
      · have s27 : b0.tmps.getD 27 undef = .bool false := (hslot 8 27 (by rfl)).trans (hR.2 8 (done_at hdo 8 (by rfl)))
        have s32 : b0.tmps.getD 32 undef = undef := (hslot 13 32 (by rfl)).trans (hR.2 13 (done_at hdo 13 (by rfl)))
        clear hslot hoth hdo hcl hLi
        refine guard_none (by rfl) ?_
        go_simp
        exact hK _ _ (flat_mark (hR.1) (fun _ _ h => h) hR.2 rfl)
      · have s27 : b0.tmps.getD 27 undef = .bool true := (hslot 8 27 (by rfl)).trans (hR.2 8 (done_at hdo 8 (by rfl)))
        have s32 : b0.tmps.getD 32 undef = .bool false := (hslot 13 32 (by rfl)).trans (hR.2 13 (done_at hdo 13 (by rfl)))
        clear hslot hoth hdo hcl hLi
        refine guard_none (by rfl) ?_
        go_simp
        exact hK _ _ (flat_mark (hR.1) (fun _ _ h => h) hR.2 rfl)
      · have s27 : b0.tmps.getD 27 undef = .bool true := (hslot 8 27 (by rfl)).trans (hR.2 8 (done_at hdo 8 (by rfl)))
        have s32 : b0.tmps.getD 32 undef = .bool true := (hslot 13 32 (by rfl)).trans (hR.2 13 (done_at hdo 13 (by rfl)))
        clear hslot hoth hdo hcl hLi
        refine guard_none (by rfl) ?_
        go_simp
        exact hK _ _ (flat_mark (hR.1) (fun _ _ h => h) hR.2 rfl)
    · intro b0 us wz L hslot hoth hLi hR hcl hdo K hK
      rcases HL.out with ⟨rfl, rfl, hf⟩ | ⟨rfl, rfl, hf⟩ | ⟨rfl, rfl, hf⟩ | ⟨rfl, rfl, rfl, hf⟩
      · have s33 : b0.tmps.getD 33 undef = .bool false := (hslot 14 33 (by rfl)).trans (hR.2 14 (done_at hdo 14 (by rfl)))
        clear hslot hoth hdo hcl hLi
        refine guard_none (by rfl) ?_
        go_simp
        exact hK _ _ (flat_mark (hR.1) (fun _ _ h => h) hR.2 rfl)
      · have s33 : b0.tmps.getD 33 undef = .bool false := (hslot 14 33 (by rfl)).trans (hR.2 14 (done_at hdo 14 (by rfl)))
        clear hslot hoth hdo hcl hLi
        refine guard_none (by rfl) ?_
        go_simp
        exact hK _ _ (flat_mark (hR.1) (fun _ _ h => h) hR.2 rfl)
      · have s33 : b0.tmps.getD 33 undef = .bool false := (hslot 14 33 (by rfl)).trans (hR.2 14 (done_at hdo 14 (by rfl)))
        clear hslot hoth hdo hcl hLi
        refine guard_none (by rfl) ?_
        go_simp
        exact hK _ _ (flat_mark (hR.1) (fun _ _ h => h) hR.2 rfl)
      · have s33 : b0.tmps.getD 33 undef = .bool true := (hslot 14 33 (by rfl)).trans (hR.2 14 (done_at hdo 14 (by rfl)))
        clear hslot hoth hdo hcl hLi
        refine guard_none (by rfl) ?_
        go_simp
        exact hK _ _ (flat_mark (hR.1) (fun _ _ h => h) hR.2 rfl)
    · intro b0 us wz L hslot hoth hLi hR hcl hdo K hK
      rcases HL.out with ⟨rfl, rfl, hf⟩ | ⟨rfl, rfl, hf⟩ | ⟨rfl, rfl, hf⟩ | ⟨rfl, rfl, rfl, hf⟩
      · have gg : us 15 = .bool false := hR.2 15 (done_at hdo 15 (by rfl))
        refine guard_off (j := 15) (want := true) (d := 34) (by rfl) (by rfl) gg (by rfl) ?_
        exact hK undef _ (flat_mark (hR.1) (fun _ _ h => h) hR.2 rfl)
      · have gg : us 15 = .bool false := hR.2 15 (done_at hdo 15 (by rfl))
        refine guard_off (j := 15) (want := true) (d := 34) (by rfl) (by rfl) gg (by rfl) ?_
        exact hK undef _ (flat_mark (hR.1) (fun _ _ h => h) hR.2 rfl)
      · have gg : us 15 = .bool false := hR.2 15 (done_at hdo 15 (by rfl))
        refine guard_off (j := 15) (want := true) (d := 34) (by rfl) (by rfl) gg (by rfl) ?_
        exact hK undef _ (flat_mark (hR.1) (fun _ _ h => h) hR.2 rfl)
      · have gg : us 15 = .bool true := hR.2 15 (done_at hdo 15 (by rfl))
        have s0 : b0.tmps.getD 0 undef = .slice (some p0) n cap := hoth 0 (by rfl)
        clear hslot hoth hdo hcl hLi
        refine guard_on (j := 15) (want := true) (d := 34) (by rfl) (by rfl) gg ?_
        go_simp
        exact hK _ _ (flat_mark (hR.1) (fun _ _ h => h) hR.2 rfl)
    · intro b0 us wz L hslot hoth hLi hR hcl hdo K hK
      rcases HL.out with ⟨rfl, rfl, hf⟩ | ⟨rfl, rfl, hf⟩ | ⟨rfl, rfl, hf⟩ | ⟨rfl, rfl, rfl, hf⟩
      · have gg : us 15 = .bool false := hR.2 15 (done_at hdo 15 (by rfl))
        refine guard_off (j := 15) (want := true) (d := 34) (by rfl) (by rfl) gg (by rfl) ?_
        exact hK undef _ (flat_mark (hR.1) (fun _ _ h => h) hR.2 rfl)
      · have gg : us 15 = .bool false := hR.2 15 (done_at hdo 15 (by rfl))
        refine guard_off (j := 15) (want := true) (d := 34) (by rfl) (by rfl) gg (by rfl) ?_
        exact hK undef _ (flat_mark (hR.1) (fun _ _ h => h) hR.2 rfl)
      · have gg : us 15 = .bool false := hR.2 15 (done_at hdo 15 (by rfl))
        refine guard_off (j := 15) (want := true) (d := 34) (by rfl) (by rfl) gg (by rfl) ?_
        exact hK undef _ (flat_mark (hR.1) (fun _ _ h => h) hR.2 rfl)
      · have gg : us 15 = .bool true := hR.2 15 (done_at hdo 15 (by rfl))
        have s1 : b0.tmps.getD 1 undef = .int .i64 (m : Int) := hoth 1 (by rfl)
        clear hslot hoth hdo hcl hLi
        refine guard_on (j := 15) (want := true) (d := 34) (by rfl) (by rfl) gg ?_
        go_simp
        exact hK _ _ (flat_mark (hR.1) (fun _ _ h => h) hR.2 rfl)
    · intro b0 us wz L hslot hoth hLi hR hcl hdo K hK
      rcases HL.out with ⟨rfl, rfl, hf⟩ | ⟨rfl, rfl, hf⟩ | ⟨rfl, rfl, hf⟩ | ⟨rfl, rfl, rfl, hf⟩
      · have gg : us 15 = .bool false := hR.2 15 (done_at hdo 15 (by rfl))
        refine guard_off (j := 15) (want := true) (d := 34) (by rfl) (by rfl) gg (by rfl) ?_
        exact hK undef _ (flat_mark (hR.1) (fun _ _ h => h) hR.2 rfl)
      · have gg : us 15 = .bool false := hR.2 15 (done_at hdo 15 (by rfl))
        refine guard_off (j := 15) (want := true) (d := 34) (by rfl) (by rfl) gg (by rfl) ?_
        exact hK undef _ (flat_mark (hR.1) (fun _ _ h => h) hR.2 rfl)
      · have gg : us 15 = .bool false := hR.2 15 (done_at hdo 15 (by rfl))
        refine guard_off (j := 15) (want := true) (d := 34) (by rfl) (by rfl) gg (by rfl) ?_
        exact hK undef _ (flat_mark (hR.1) (fun _ _ h => h) hR.2 rfl)
      · have gg : us 15 = .bool true := hR.2 15 (done_at hdo 15 (by rfl))
        have s35 : b0.tmps.getD 35 undef = .slice (some p0) n cap := (hslot 16 35 (by rfl)).trans (hR.2 16 (done_at hdo 16 (by rfl)))
        have s36 : b0.tmps.getD 36 undef = .int .i64 (m : Int) := (hslot 17 36 (by rfl)).trans (hR.2 17 (done_at hdo 17 (by rfl)))
        have hmn : m < n := hf.out.1
        have hcap0 : n ≤ cap := HNC.out
        have hq : p0.add m = qa := hf.out.2.2.1
        clear hslot hoth hdo hcl hLi
        refine guard_on (j := 15) (want := true) (d := 34) (by rfl) (by rfl) gg ?_
        go_simp
        exact hK _ _ (flat_mark (hR.1) (fun _ _ h => h) hR.2 rfl)
    · intro b0 us wz L hslot hoth hLi hR hcl hdo K hK
      rcases HL.out with ⟨rfl, rfl, hf⟩ | ⟨rfl, rfl, hf⟩ | ⟨rfl, rfl, hf⟩ | ⟨rfl, rfl, rfl, hf⟩
      · have gg : us 15 = .bool false := hR.2 15 (done_at hdo 15 (by rfl))
        refine guard_off (j := 15) (want := true) (d := 34) (by rfl) (by rfl) gg (by rfl) ?_
        exact hK undef _ (flat_mark (hR.1) (fun _ _ h => h) hR.2 rfl)
      · have gg : us 15 = .bool false := hR.2 15 (done_at hdo 15 (by rfl))
        refine guard_off (j := 15) (want := true) (d := 34) (by rfl) (by rfl) gg (by rfl) ?_
        exact hK undef _ (flat_mark (hR.1) (fun _ _ h => h) hR.2 rfl)
      · have gg : us 15 = .bool false := hR.2 15 (done_at hdo 15 (by rfl))
        refine guard_off (j := 15) (want := true) (d := 34) (by rfl) (by rfl) gg (by rfl) ?_
        exact hK undef _ (flat_mark (hR.1) (fun _ _ h => h) hR.2 rfl)
      · have gg : us 15 = .bool true := hR.2 15 (done_at hdo 15 (by rfl))
        have s37 : b0.tmps.getD 37 undef = .pointer (some qa) := (hslot 18 37 (by rfl)).trans (hR.2 18 (done_at hdo 18 (by rfl)))
        clear hslot hoth hdo hcl hLi
        refine guard_on (j := 15) (want := true) (d := 34) (by rfl) (by rfl) gg ?_
        go_simp
        exact hK _ _ (flat_mark (hR.1) (fun _ _ h => h) hR.2 rfl)
    · intro b0 us wz L hslot hoth hLi hR hcl hdo K hK
      rcases HL.out with ⟨rfl, rfl, hf⟩ | ⟨rfl, rfl, hf⟩ | ⟨rfl, rfl, hf⟩ | ⟨rfl, rfl, rfl, hf⟩
      · have gg : us 15 = .bool false := hR.2 15 (done_at hdo 15 (by rfl))
        refine guard_off (j := 15) (want := true) (d := 34) (by rfl) (by rfl) gg (by rfl) ?_
        exact hK undef _ (flat_mark (hR.1) (fun _ _ h => h) hR.2 rfl)
      · have gg : us 15 = .bool false := hR.2 15 (done_at hdo 15 (by rfl))
        refine guard_off (j := 15) (want := true) (d := 34) (by rfl) (by rfl) gg (by rfl) ?_
        exact hK undef _ (flat_mark (hR.1) (fun _ _ h => h) hR.2 rfl)
      · have gg : us 15 = .bool false := hR.2 15 (done_at hdo 15 (by rfl))
        refine guard_off (j := 15) (want := true) (d := 34) (by rfl) (by rfl) gg (by rfl) ?_
        exact hK undef _ (flat_mark (hR.1) (fun _ _ h => h) hR.2 rfl)
      · have gg : us 15 = .bool true := hR.2 15 (done_at hdo 15 (by rfl))
        have s38 : b0.tmps.getD 38 undef = .pointer (some qa) := (hslot 19 38 (by rfl)).trans (hR.2 19 (done_at hdo 19 (by rfl)))
        have hc : wz.cell? qa = some (.slice (some qb) m5 qc) := (hf.out.2.2.2.1 wz hR.1.2.2).1
        clear hslot hoth hdo hcl hLi
        refine guard_on (j := 15) (want := true) (d := 34) (by rfl) (by rfl) gg ?_
        go_simp
        exact hK _ _ (flat_mark (hR.1) (fun _ _ h => h) hR.2 rfl)
    · intro b0 us wz L hslot hoth hLi hR hcl hdo K hK
      rcases HL.out with ⟨rfl, rfl, hf⟩ | ⟨rfl, rfl, hf⟩ | ⟨rfl, rfl, hf⟩ | ⟨rfl, rfl, rfl, hf⟩
      · have gg : us 15 = .bool false := hR.2 15 (done_at hdo 15 (by rfl))
        refine guard_off (j := 15) (want := true) (d := 34) (by rfl) (by rfl) gg (by rfl) ?_
        exact hK undef _ (flat_mark (hR.1) (fun _ _ h => h) hR.2 rfl)
      · have gg : us 15 = .bool false := hR.2 15 (done_at hdo 15 (by rfl))
        refine guard_off (j := 15) (want := true) (d := 34) (by rfl) (by rfl) gg (by rfl) ?_
        exact hK undef _ (flat_mark (hR.1) (fun _ _ h => h) hR.2 rfl)
      · have gg : us 15 = .bool false := hR.2 15 (done_at hdo 15 (by rfl))
        refine guard_off (j := 15) (want := true) (d := 34) (by rfl) (by rfl) gg (by rfl) ?_
        exact hK undef _ (flat_mark (hR.1) (fun _ _ h => h) hR.2 rfl)
      · have gg : us 15 = .bool true := hR.2 15 (done_at hdo 15 (by rfl))
        have s5 : b0.tmps.getD 5 undef = .pointer (some ⟨w.heap.size, 0, none⟩) := hoth 5 (by rfl)
        clear hslot hoth hdo hcl hLi
        refine guard_on (j := 15) (want := true) (d := 34) (by rfl) (by rfl) gg ?_
        go_simp
        exact hK _ _ (flat_mark (hR.1) (fun _ _ h => h) hR.2 rfl)
    · intro b0 us wz L hslot hoth hLi hR hcl hdo K hK
      rcases HL.out with ⟨rfl, rfl, hf⟩ | ⟨rfl, rfl, hf⟩ | ⟨rfl, rfl, hf⟩ | ⟨rfl, rfl, rfl, hf⟩
      · have gg : us 15 = .bool false := hR.2 15 (done_at hdo 15 (by rfl))
        refine guard_off (j := 15) (want := true) (d := 34) (by rfl) (by rfl) gg (by rfl) ?_
        exact hK undef _ (flat_mark (hR.1) (fun _ _ h => h) hR.2 rfl)
      · have gg : us 15 = .bool false := hR.2 15 (done_at hdo 15 (by rfl))
        refine guard_off (j := 15) (want := true) (d := 34) (by rfl) (by rfl) gg (by rfl) ?_
        exact hK undef _ (flat_mark (hR.1) (fun _ _ h => h) hR.2 rfl)
      · have gg : us 15 = .bool false := hR.2 15 (done_at hdo 15 (by rfl))
        refine guard_off (j := 15) (want := true) (d := 34) (by rfl) (by rfl) gg (by rfl) ?_
        exact hK undef _ (flat_mark (hR.1) (fun _ _ h => h) hR.2 rfl)
      · have gg : us 15 = .bool true := hR.2 15 (done_at hdo 15 (by rfl))
        have s40 : b0.tmps.getD 40 undef = .pointer (some ⟨w.heap.size, 0, none⟩) := (hslot 21 40 (by rfl)).trans (hR.2 21 (done_at hdo 21 (by rfl)))
        have t0 := (hR.1.2.1).c0
        have t1 := (hR.1.2.1).c1
        have t2 := (hR.1.2.1).c2
        have t3 := (hR.1.2.1).c3
        have t4 := (hR.1.2.1).c4
        have t5 := (hR.1.2.1).c5
        clear hslot hoth hdo hcl hLi
        refine guard_on (j := 15) (want := true) (d := 34) (by rfl) (by rfl) gg ?_
        go_simp
        exact hK _ _ (flat_mark (hR.1) (fun _ _ h => h) hR.2 rfl)
    · intro b0 us wz L hslot hoth hLi hR hcl hdo K hK
      rcases HL.out with ⟨rfl, rfl, hf⟩ | ⟨rfl, rfl, hf⟩ | ⟨rfl, rfl, hf⟩ | ⟨rfl, rfl, rfl, hf⟩
      · have gg : us 15 = .bool false := hR.2 15 (done_at hdo 15 (by rfl))
        refine guard_off (j := 15) (want := true) (d := 34) (by rfl) (by rfl) gg (by rfl) ?_
        exact hK undef _ (flat_mark (hR.1) (fun _ _ h => h) hR.2 rfl)
      · have gg : us 15 = .bool false := hR.2 15 (done_at hdo 15 (by rfl))
        refine guard_off (j := 15) (want := true) (d := 34) (by rfl) (by rfl) gg (by rfl) ?_
        exact hK undef _ (flat_mark (hR.1) (fun _ _ h => h) hR.2 rfl)
      · have gg : us 15 = .bool false := hR.2 15 (done_at hdo 15 (by rfl))
        refine guard_off (j := 15) (want := true) (d := 34) (by rfl) (by rfl) gg (by rfl) ?_
        exact hK undef _ (flat_mark (hR.1) (fun _ _ h => h) hR.2 rfl)
      · have gg : us 15 = .bool true := hR.2 15 (done_at hdo 15 (by rfl))
        have s39 : b0.tmps.getD 39 undef = .slice (some qb) m5 qc := (hslot 20 39 (by rfl)).trans (hR.2 20 (done_at hdo 20 (by rfl)))
        have s41 : b0.tmps.getD 41 undef = .int .i64 r := (hslot 22 41 (by rfl)).trans (hR.2 22 (done_at hdo 22 (by rfl)))
        clear hslot hoth hdo hcl hLi
        refine guard_on (j := 15) (want := true) (d := 34) (by rfl) (by rfl) gg ?_
        go_simp
        refine (hf.out.2.2.2.2 wz hR.1.2.2).mono ?_
        rintro e w' ⟨rfl, hb⟩
        exact hK _ _ (flat_mark ⟨below_more hR.1.1 hb, hR.1.2.1.on hb, below_more hR.1.2.2 hb⟩ (fun _ _ h => h) hR.2 rfl)
    · intro b0 us wz L hslot hoth hLi hR hcl hdo K hK
      rcases HL.out with ⟨rfl, rfl, hf⟩ | ⟨rfl, rfl, hf⟩ | ⟨rfl, rfl, hf⟩ | ⟨rfl, rfl, rfl, hf⟩
      · have s34 : b0.tmps.getD 34 undef = .bool false := (hslot 15 34 (by rfl)).trans (hR.2 15 (done_at hdo 15 (by rfl)))
        have s42 : b0.tmps.getD 42 undef = undef := (hslot 23 42 (by rfl)).trans (hR.2 23 (done_at hdo 23 (by rfl)))
        clear hslot hoth hdo hcl hLi
        refine guard_none (by rfl) ?_
        go_simp
        exact hK _ _ (flat_mark (hR.1) (fun _ _ h => h) hR.2 rfl)
      · have s34 : b0.tmps.getD 34 undef = .bool false := (hslot 15 34 (by rfl)).trans (hR.2 15 (done_at hdo 15 (by rfl)))
        have s42 : b0.tmps.getD 42 undef = undef := (hslot 23 42 (by rfl)).trans (hR.2 23 (done_at hdo 23 (by rfl)))
        clear hslot hoth hdo hcl hLi
        refine guard_none (by rfl) ?_
        go_simp
        exact hK _ _ (flat_mark (hR.1) (fun _ _ h => h) hR.2 rfl)
      · have s34 : b0.tmps.getD 34 undef = .bool false := (hslot 15 34 (by rfl)).trans (hR.2 15 (done_at hdo 15 (by rfl)))
        have s42 : b0.tmps.getD 42 undef = undef := (hslot 23 42 (by rfl)).trans (hR.2 23 (done_at hdo 23 (by rfl)))
        clear hslot hoth hdo hcl hLi
        refine guard_none (by rfl) ?_
        go_simp
        exact hK _ _ (flat_mark (hR.1) (fun _ _ h => h) hR.2 rfl)
      · have s34 : b0.tmps.getD 34 undef = .bool true := (hslot 15 34 (by rfl)).trans (hR.2 15 (done_at hdo 15 (by rfl)))
        have s42 : b0.tmps.getD 42 undef = .bool b := (hslot 23 42 (by rfl)).trans (hR.2 23 (done_at hdo 23 (by rfl)))
        clear hslot hoth hdo hcl hLi
        refine guard_none (by rfl) ?_
        go_simp
        exact hK _ _ (flat_mark (hR.1) (fun _ _ h => h) hR.2 rfl)
    · intro b0 us wz L hslot hoth hLi hR hcl hdo K hK
      rcases HL.out with ⟨rfl, rfl, hf⟩ | ⟨rfl, rfl, hf⟩ | ⟨rfl, rfl, hf⟩ | ⟨rfl, rfl, rfl, hf⟩
      · have s43 : b0.tmps.getD 43 undef = .bool false := (hslot 24 43 (by rfl)).trans (hR.2 24 (done_at hdo 24 (by rfl)))
        clear hslot hoth hdo hcl hLi
        refine guard_none (by rfl) ?_
        go_simp
        exact hK _ _ (flat_mark (hR.1) (fun _ _ h => h) hR.2 rfl)
      · have s43 : b0.tmps.getD 43 undef = .bool false := (hslot 24 43 (by rfl)).trans (hR.2 24 (done_at hdo 24 (by rfl)))
        clear hslot hoth hdo hcl hLi
        refine guard_none (by rfl) ?_
        go_simp
        exact hK _ _ (flat_mark (hR.1) (fun _ _ h => h) hR.2 rfl)
      · have s43 : b0.tmps.getD 43 undef = .bool false := (hslot 24 43 (by rfl)).trans (hR.2 24 (done_at hdo 24 (by rfl)))
        clear hslot hoth hdo hcl hLi
        refine guard_none (by rfl) ?_
        go_simp
        exact hK _ _ (flat_mark (hR.1) (fun _ _ h => h) hR.2 rfl)
      · have s43 : b0.tmps.getD 43 undef = .bool b := (hslot 24 43 (by rfl)).trans (hR.2 24 (done_at hdo 24 (by rfl)))
        clear hslot hoth hdo hcl hLi
        refine guard_none (by rfl) ?_
        go_simp
        exact hK _ _ (flat_mark (hR.1) (fun _ _ h => h) hR.2 rfl)
  · intro us wn L hall hR a' ha'
    have g25 : us 25 = .bool o := by
      have := hR.2 25 (hall 25 (by decide))
      rcases HL.out with ⟨rfl, rfl, hf⟩ | ⟨rfl, rfl, hf⟩ | ⟨rfl, rfl, hf⟩ | ⟨rfl, rfl, rfl, hf⟩
      all_goals exact this
    have HB := hid_of hR.1
    clear hR hall
    simp only [putAll, g25] at ha'
    subst ha'
    go_frame
    have HZ := hid_of HB.out.1
    clear HB HL l HC3
    go_wp2
    go_ret
    exact ⟨rfl, HZ.out⟩
set_option maxHeartbeats 1000000 in
theorem implMay_any (p0 : Addr) (cap : Nat) (tss : List (List Re)) (P r p q h k t : Int) (w : World) (hx : IsWood w (.slice (some p0) tss.length cap) tss) (hcap : tss.length ≤ cap) (hn : tss.length ≤ 1048576) (ht : ∀ i, (treeAt tss i).length ≤ 1048576) :
    Calls Tryd.prog 19 #[.slice (some p0) tss.length cap, .int .i64 P, tapV r p q h k t] w fun e w' => e = .returned (.bool (mayB tss P r p q h k t)) ∧ Below w.heap.size w w' := by
  have hcon := fun w' (hb : Below w.heap.size w w') => contains_any p0 cap tss w' (hx.trees.on hb) hcap hn ht
  by_cases hl : tss.length ≤ 3
  · cases hall : tss.all treeOk with
    | false =>
      rw [mayB_all hall]
      rw [hall] at hcon
      have HCON : Hid (∀ w', Below w.heap.size w w' → _) := hcon
      have hn3 : ¬ (3 < (tss.length : Int)) := by omega
      have HB0 : Hid (Below w.heap.size w (w.alloc (boxT r p q h k t))) := below_alloc w _
      clear hcon hx ht hall
      go_enter Tryd.func19, Tryd.ntmps19
      go_wp2_with fail
      refine (HCON.out _ HB0.out).mono ?_
      rintro e w1 ⟨rfl, hb⟩
      have HB1 := hid_of (below_more HB0.out hb)
      clear HCON hb HB0
      go_wp2
      go_ret
      exact ⟨rfl, HB1.out⟩
    | true =>
      rw [hall] at hcon
      cases htap : tapOk r p q h k t with
      | false =>
        rw [mayB_tap htap]
        have HCON : Hid (∀ w', Below w.heap.size w w' → _) := hcon
        have C1 := fun w => implTapOk_any r p q h k t w
        rw [htap] at C1
        have hn3 : ¬ (3 < (tss.length : Int)) := by omega
        have HB0 : Hid (Below w.heap.size w (w.alloc (boxT r p q h k t))) := below_alloc w _
        have HT0 : Hid (Tap6 (w.alloc (boxT r p q h k t)) w.heap.size r p q h k t) := ⟨heap_alloc_new w _⟩
        clear hcon hx ht hall htap
        go_enter Tryd.func19, Tryd.ntmps19
        go_wp2_with fail
        refine (HCON.out _ HB0.out).mono ?_
        rintro e w1 ⟨rfl, hb⟩
        have HB1 := hid_of (below_more HB0.out hb)
        have HT1 := hid_of (HT0.out.on hb)
        clear HCON hb HB0 HT0
        have t0 := HT1.out.c0
        have t1 := HT1.out.c1
        have t2 := HT1.out.c2
        have t3 := HT1.out.c3
        have t4 := HT1.out.c4
        have t5 := HT1.out.c5
        go_wp2_with fail
        refine (C1 _).mono ?_
        rintro e w2 ⟨rfl, hb⟩
        have HB2 := hid_of (below_more HB1.out hb)
        clear HB1 HT1 hb C1 t0 t1 t2 t3 t4 t5
        go_wp2
        go_ret
        exact ⟨rfl, HB2.out⟩
      | true =>
        by_cases hP : P < 0
        · rw [mayB_low hP]
          exact implMay_go p0 tss.length cap P r p q h k t w false false 0 0 0 p0 p0 hcap hl hcon htap (.inl ⟨rfl, hP⟩)
        by_cases hP' : P < tss.length
        · by_cases hp : p < tss.length
          · obtain ⟨m, rfl⟩ : ∃ m : Nat, P = (m : Int) := ⟨P.toNat, by omega⟩
            have hm : m < tss.length := by omega
            obtain ⟨qa, qb, qc, hq, hc, hu⟩ := hx.at hm
            rw [mayB_rest hall hl htap hm hp]
            refine implMay_go p0 tss.length cap m r p q h k t w _ _ m (treeAt tss m).length qc qa qb hcap hl hcon htap (.inr (.inr (.inr ⟨rfl, rfl, hm, hp, hq, fun w' hb => ⟨(hb.cell (World.block_lt_of_cell? w _ hc)).trans hc, trivial⟩, fun w' hb => ?_⟩)))
            rw [← live_eq (all_at hall hm)]
            exact (implLive_any _ (treeAt tss m) r w' (hu.on hb) (ht m)).mono fun e w'' h => ⟨h.1, by rw [← h.2]; exact Below.refl _ _⟩
          · rw [mayB_to hp]
            exact implMay_go p0 tss.length cap P r p q h k t w false false 0 0 0 p0 p0 hcap hl hcon htap (.inr (.inr (.inl ⟨rfl, by omega, hP', by omega⟩)))
        · rw [mayB_high hP']
          exact implMay_go p0 tss.length cap P r p q h k t w false false 0 0 0 p0 p0 hcap hl hcon htap (.inr (.inl ⟨rfl, by omega, by omega⟩))
  · rw [mayB_len (by omega)]
    have hn3 : 3 < (tss.length : Int) := by omega
    clear hcon hx ht
    go_enter Tryd.func19, Tryd.ntmps19
    go_wp2
    go_ret
    exact ⟨rfl, by go_grown⟩
end Go.Proofs.YtfcenombphodbaaDoor
