/-
  The law of GcStep: the program answers as the model; it writes into nothing that it was given, and its answer owns its memory.
-/
import Derived.Test.YtbdljoldblpffaaGreatMark10
import Derived.Test.YtbdljoldblpffaaGreatStepT
import Derived.Test.YtbdljoldblpffaaGreatReadT8
import Derived.Test.YtbdljoldblpffaaGreatCopy8
namespace Go.Proofs.YtbdljoldblpffaaGreat
open Go.ChangeShapes Go.WideShapes Go.ChangeAt Go.RowKit
set_option linter.unusedVariables false
set_option maxRecDepth 100000

theorem arN_marked (v : Bool) : ∀ (os : List Ob) (k : Nat), arN (os.set k (marked (obAt os k) v)) = arN os
  | [], _ => rfl
  | o :: os, 0 => by simp [arN_cons, obAt, obN, marked]
  | o :: os, k + 1 => by
    have e : obAt (o :: os) (k + 1) = obAt os k := by simp [obAt]
    rw [List.set_cons_succ, arN_cons, arN_cons, e, arN_marked v os k]
theorem arN_un (z : Int) : ∀ os : List Ob, arN (os.map (unO z)) = arN os
  | [] => rfl
  | o :: os => by rw [List.map_cons, arN_cons, arN_cons, arN_un z os]; simp [obN, unO]
theorem freeOf_arN (os : List Ob) (i : Int) : arN (freeOf os i) ≤ arN os := by
  unfold freeOf
  split
  · rw [arN_un]; exact arN_new _ _ _
  · exact Nat.le_refl _
theorem shOs_arN (p : Int) (os : List Ob) (k : Nat) : arN (shOs p os k) = arN os := by
  unfold shOs
  split
  · exact arN_marked _ _ _
  · rfl
theorem shTo_arN (now : Int) (es : List Int) (os : List Ob) (xs : List Int) : ∀ n, arN (shTo now es os xs n).1 = arN os
  | 0 => rfl
  | n + 1 => by
    have ih := shTo_arN now es os xs n
    cases h : expB (obAt (shTo now es os xs n).1 (es.getD n 0).toNat) now with
    | true => rw [shTo_skip h]; exact ih
    | false => rw [shTo_more h]; exact (shOs_arN _ _ _).trans ih
theorem gsOs_length (os : List Ob) (p t r : Int) (xs : List Int) (now : Int) : (gsOs os p t r xs now).length = os.length := by
  unfold gsOs
  split
  · split
    · exact mkAll_length _ _ _
    · rw [swL_length, swOs_length]
  · rfl
theorem gsOs_arN (os : List Ob) (p t r : Int) (xs : List Int) (now : Int) : arN (gsOs os p t r xs now) ≤ arN os := by
  unfold gsOs
  split
  · split
    · unfold mkAll
      split
      · exact Nat.le_refl _
      · split
        · exact Nat.le_refl _
        · rw [shTo_arN, arN_marked]; exact Nat.le_refl _
    · have h1 : arN (swOs os t.toNat now) ≤ arN os := by
        unfold swOs
        split
        · exact freeOf_arN _ _
        · rw [arN_marked]; exact Nat.le_refl _
      unfold swL
      split
      · rw [arN_marked]; exact h1
      · exact h1
  · exact Nat.le_refl _
theorem gsXs_length {os : List Ob} {p t r : Int} {xs : List Int} {now : Int} (h : (os.length : Int) + arN os + xs.length ≤ 1048576) : (gsXs os p t r xs now).length ≤ 1048576 := by
  unfold gsXs
  split
  · rename_i hb
    have h1 : os.length = 10 := heapOk_ten hb
    split
    · unfold mkAll
      split
      · show xs.length ≤ _; omega
      · split
        · show (xs.take _).length ≤ _; rw [List.length_take]; omega
        · have e := (shTo_len now (edgesTo os (lastI xs) 10) (os.set (lastI xs) (marked (obAt os (lastI xs)) true)) (xs.take (xs.length - 1)) (edgesTo os (lastI xs) 10).length).2
          have e2 := edgesTo_len os (lastI xs) 10
          rw [List.length_take] at e
          omega
    · unfold swX
      split <;> simp
  · omega
namespace LGcStep
set_option maxHeartbeats 16000000 in
theorem small (a : Value) (p t r : Int) (g : Value) (os : List Ob) (xs : List Int) (z : Int) (w : World) (ha : IsArena w a os) (hx : IsInts w g xs) (hm : os.length ≤ maxLen) (hn : xs.length ≤ maxLen) (hf : ∀ i, Sound8 (obAt os i)) (hr : -9223372036854775808 ≤ r ∧ r ≤ 9223372036854775807) (ht : -9223372036854775808 ≤ t ∧ t ≤ 9223372036854775807) (hz : -9223372036854775808 ≤ z ∧ z ≤ 9223372036854775807) (h : hpN os xs ≤ 1048576) :
    Calls Tryz.prog 5 #[hpV a p t r g, .int .i64 z] w fun e w' => e = .returned (.bool true) ∧ Below w.heap.size w w' := by
  have hs := small8 (os := os) (by unfold hpN at h; omega)
  have hl : os.length ≤ 1048576 := by unfold hpN at h; omega
  have hxl : xs.length ≤ 1048576 := by unfold hpN at h; omega
  have hol : (os.length : Int) + arN os ≤ 1048576 := by unfold hpN at h; omega
  unfold maxLen at hm hn
  have hsum : (os.length : Int) + arN os + xs.length ≤ 1048576 := by unfold hpN at h; omega
  have hrl : ((gsOs os p t r xs z).length : Int) + arN (gsOs os p t r xs z) ≤ 1048576 := by rw [gsOs_length]; have := gsOs_arN os p t r xs z; omega
  have hyl : (gsXs os p t r xs z).length ≤ 1048576 := gsXs_length hsum
  have hrs8 := small8 (os := gsOs os p t r xs z) (by omega)
  have HC : Hid (∀ w', Below w.heap.size w w' → Calls Tryz.prog 7 #[hpV a p t r g, .int .i64 1048576] w' fun e w'' => e = .returned (.int .i64 (1048576 - (hpN os xs : Int))) ∧ Below w'.heap.size w' w'') := fun w' hb => by
    have e := szHeap_any a p t r g os xs 1048576 w' (ha.on hb) (hx.on hb) (by omega) (by omega) (by omega) (wide8 hf) (by omega)
    rw [szOf_yes (by omega)] at e
    exact e
  have HS : Hid (∀ w', Below w.heap.size w w' → Calls Tryz.prog 9 #[hpV a p t r g] w' fun e w'' => (∃ b u : Nat, e = .returned (hpV (.slice (some ⟨b, 0, none⟩) os.length os.length) p t r (.slice (some ⟨u, 0, none⟩) xs.length xs.length)) ∧ IsArena w'' (.slice (some ⟨b, 0, none⟩) os.length os.length) os ∧ IsInts w'' (.slice (some ⟨u, 0, none⟩) xs.length xs.length) xs) ∧ Below w'.heap.size w' w'') := fun w' hb => toHeap_some a p t r g os xs w' (ha.on hb) (hx.on hb) hl hs hxl
  have HS2 := hid_of HS.out
  have HG : Hid (∀ w', Below w.heap.size w w' → Calls Tryz.prog 9 #[hpV a p t r g] w' fun e w'' => AnsH p t r os xs w' e w'') := fun w' hb => toHeap_got a p t r g os xs w' (ha.on hb) (hx.on hb) hl hs hxl
  have HT : Hid (∀ w', Below w.heap.size w w' → Calls Tryz.prog 9 #[hpV a p t r g] w' fun e w'' => (∃ u, e = .returned u ∧ LikeH p t r os xs u w'') ∧ Below w'.heap.size w' w'') := fun w' hb => toHeap_like a p t r g os xs w' (ha.on hb) (hx.on hb) hl hs hxl
  obtain ⟨rs, hrs⟩ : ∃ rs, rs = gsOs os p t r xs z := ⟨_, rfl⟩
  obtain ⟨ys, hys⟩ : ∃ ys, ys = gsXs os p t r xs z := ⟨_, rfl⟩
  obtain ⟨p1, hp1⟩ : ∃ x, x = gsP os p t r xs := ⟨_, rfl⟩
  obtain ⟨t1, ht1⟩ : ∃ x, x = gsT os p t r xs := ⟨_, rfl⟩
  obtain ⟨r1, hr1⟩ : ∃ x, x = gsR os p t r xs := ⟨_, rfl⟩
  obtain ⟨f0, hf0⟩ : ∃ x, x = gsF os p t r xs z := ⟨_, rfl⟩
  have HO : Hid (∀ (b u : Nat) w', IsArena w' (.slice (some ⟨b, 0, none⟩) os.length os.length) os → IsInts w' (.slice (some ⟨u, 0, none⟩) xs.length xs.length) xs → Calls Tryz.prog 16 #[hpV (.slice (some ⟨b, 0, none⟩) os.length os.length) p t r (.slice (some ⟨u, 0, none⟩) xs.length xs.length), .int .i64 z] w' fun e w'' => (∃ A G, e = .returned (.tuple #[hpV A p1 t1 r1 G, .int .i64 f0]) ∧ GotH w'.heap.size w''.heap.size rs ys A G w'') ∧ Below w'.heap.size w' w'') := by
    rw [hp1, ht1, hr1, hf0, hrs, hys]
    exact fun b u w' h1 h2 => specStep_any ⟨b, 0, none⟩ os.length p t r ⟨u, 0, none⟩ xs.length os xs z w' h1 h2 hs (fun i => (hf i).fits) hsum
  have HI : Hid (∀ (b c : Nat) G w', IsArena w' (.slice (some ⟨b, 0, none⟩) os.length c) os → IsInts w' G xs → Calls Tryz.prog 17 #[hpV (.slice (some ⟨b, 0, none⟩) os.length c) p t r G, .int .i64 z] w' fun e w'' => (∃ A G, e = .returned (.tuple #[hpV A p1 t1 r1 G, .int .i64 f0]) ∧ GotH w'.heap.size w''.heap.size rs ys A G w'') ∧ Below w'.heap.size w' w'') := by
    rw [hp1, ht1, hr1, hf0, hrs, hys]
    exact fun b c G w' h1 h2 => implStep_any ⟨b, 0, none⟩ c p t r G os xs z w' h1 h2 hs hsum
  have HQ : Hid (∀ A B G U w', IsArena w' A os → IsArena w' B os → IsInts w' G xs → IsInts w' U xs → Calls Tryz.prog 11 #[hpV A p t r G, hpV B p t r U] w' fun e w'' => e = .returned (.bool true) ∧ Below w'.heap.size w' w'') := fun A B G U w' h1 h2 h3 h4 => eqHeap_same A B p t r G U os xs w' h1 h2 h3 h4 hl hs hxl
  rw [← hrs] at hrl hrs8
  rw [← hys] at hyl
  have HE : Hid (∀ A B G U w', IsArena w' A rs → IsArena w' B rs → IsInts w' G ys → IsInts w' U ys → Calls Tryz.prog 11 #[hpV A p1 t1 r1 G, hpV B p1 t1 r1 U] w' fun e w'' => e = .returned (.bool true) ∧ Below w'.heap.size w' w'') := fun A B G U w' h1 h2 h3 h4 => eqHeap_same A B p1 t1 r1 G U rs ys w' h1 h2 h3 h4 (by omega) hrs8 hyl
  have hso := (stepS_bound os).1
  have hsr := (stepS_bound rs).1
  have HMX : Hid (∀ lo hi A G w', GotH lo hi os xs A G w' → lo ≤ w'.heap.size → hi ≤ w'.heap.size → Calls Tryz.prog 12 #[hpV A p t r G, .int .i64 1] w' fun e w'' => e = .returned (.int .i64 (1 + stepS os + xs.length)) ∧ GotH lo hi (upArena 1 os) (upFrom (1 + stepS os) xs.length) A G w'' ∧ Turned8 lo hi w' w'') := fun lo hi A G w' h1 h2 h3 => markHeap_own lo hi p t r A G os xs w' h1 hol hxl h2 h3
  have HMR : Hid (∀ lo hi A G w', GotH lo hi rs ys A G w' → lo ≤ w'.heap.size → hi ≤ w'.heap.size → Calls Tryz.prog 12 #[hpV A p1 t1 r1 G, .int .i64 1] w' fun e w'' => e = .returned (.int .i64 (1 + stepS rs + ys.length)) ∧ GotH lo hi (upArena 1 rs) (upFrom (1 + stepS rs) ys.length) A G w'' ∧ Turned8 lo hi w' w'') := fun lo hi A G w' h1 h2 h3 => markHeap_own lo hi p1 t1 r1 A G rs ys w' h1 hrl hyl h2 h3
  have HH : Hid (∀ A G w', IsArena w' A (upArena 1 rs) → IsInts w' G (upFrom (1 + stepS rs) ys.length) → Calls Tryz.prog 13 #[hpV A p1 t1 r1 G, .int .i64 1] w' fun e w'' => e = .returned (.int .i64 (1 + stepS rs + ys.length)) ∧ Below w'.heap.size w' w'') := fun A G w' h1 h2 => heldHeap_up p1 t1 r1 A G rs ys.length w' h1 h2 hrl hyl
  obtain ⟨zx, hzx⟩ : ∃ zx : Int, zx = 1 + stepS os + xs.length := ⟨_, rfl⟩
  have hzn : ¬ (zx < 0) := by omega
  obtain ⟨zl, hzl⟩ : ∃ zl : Int, zl = 1 + stepS rs + ys.length := ⟨_, rfl⟩
  have hzn2 : ¬ (zl < 0) := by omega
  rw [← hzx] at HMX
  rw [← hzl] at HMR HH
  have hzz : (zl != zl) = false := by simp
  have hff : (f0 != f0) = false := by simp
  have hnn : ¬ (1048576 - (hpN os xs : Int) < 0) := by omega
  have HV : Hid ((w.alloc (boxHL a p t r g)).heap[w.heap.size]? = some (boxHL a p t r g)) := heap_alloc_new w _
  obtain ⟨aa, ca, rfl, _, _⟩ := id ha
  obtain ⟨ag, cg, rfl, _, _⟩ := id hx
  clear ha hx hm hn hf hs hl hxl hol h hr ht hz hrs hys hrl hyl hf0 hsum hrs8 hso hsr hzx hzl hp1 ht1 hr1
  go_enter Tryz.func5, Tryz.ntmps5
  go_wp2_with fail
  refine (HC.out _ (by go_grown)).mono ?_
  rintro e w1 ⟨rfl, hb⟩
  have HB1 : Hid (Below w.heap.size w w1) := below_more (by go_grown) hb
  have HV1 := hid_of (keep HV.out hb)
  have HW1 : Hid (w.heap.size < w1.heap.size) := by show _ < _; have := hb.size; simp at this; omega
  obtain ⟨k0, k1, k2, k3, k4⟩ := cells5 HV1.out
  clear hb HC HV
  go_wp2_with fail
  refine (HS.out _ HB1.out).mono ?_
  rintro e w2 ⟨⟨gb, gu, rfl, hA2, hG2⟩, hb⟩
  have HB2 := hid_of (below_more HB1.out hb)
  have HV2 := hid_of (keep HV1.out hb)
  have HW2 : Hid (w.heap.size < w2.heap.size) := by have := HW1.out; have := hb.size; show _ < _; omega
  have HI2 := hid_of (And.intro hA2 hG2)
  clear hb HB1 HV1 HW1 k0 k1 k2 k3 k4 HS hA2 hG2
  go_wp2_with fail
  refine (HO.out _ _ _ HI2.out.1 HI2.out.2).mono ?_
  rintro e w3 ⟨⟨A1, G1, rfl, hg⟩, hb⟩
  have H1 := hid_of (InBox.made (p := p1) (t := t1) (r := r1) HB2.out HW2.out hg hb)
  have hal := below_alloc w3 (boxH A1 p1 t1 r1 G1)
  obtain ⟨g1, c1, v1, d1, rfl, rfl⟩ := hg.form
  have HV3 := hid_of (keep (keep HV2.out hb) hal)
  clear hb hal hg HB2 HV2 HW2 HI2 HO
  obtain ⟨k0, k1, k2, k3, k4⟩ := cells5 HV3.out
  go_wp2_with fail
  clear k0 k1 k2 k3 k4
  obtain ⟨l2, hl2⟩ : ∃ l2, l2 = (w3.alloc (boxH (.slice (some ⟨g1, 0, none⟩) rs.length c1) p1 t1 r1 (.slice v1 ys.length d1))).heap.size := ⟨_, rfl⟩
  obtain ⟨W3, hW3⟩ : ∃ W3, W3 = w3.alloc (boxH (.slice (some ⟨g1, 0, none⟩) rs.length c1) p1 t1 r1 (.slice v1 ys.length d1)) := ⟨_, rfl⟩
  obtain ⟨b1, hb1⟩ : ∃ b1, b1 = w3.heap.size := ⟨_, rfl⟩
  have hn12 : b1 < l2 := by rw [hb1, hl2]; simp
  rw [← hW3] at HV3 H1 hl2 ⊢
  rw [← hb1] at H1 ⊢
  clear hb1 hW3
  have HW3 : Hid (w.heap.size < W3.heap.size ∧ l2 = W3.heap.size ∧ b1 < l2) := ⟨by rw [← hl2]; have := H1.out.mid; have := H1.out.lh; have := H1.out.low; omega, hl2, hn12⟩
  clear hl2 hn12
  refine (HG.out _ H1.out.base).mono ?_
  rintro e w4 ⟨⟨A2, G2, rfl, hg⟩, hb⟩
  have H2 := hid_of (InBox.made (p := p) (t := t) (r := r) H1.out.base HW3.out.1 hg hb)
  have hal := below_alloc w4 (boxH A2 p t r G2)
  obtain ⟨g2, c2, v2, d2, rfl, rfl⟩ := hg.form
  have HV4 := hid_of (keep (keep HV3.out hb) hal)
  have H14 := hid_of ((H1.out.on hb).on hal)
  have HN : Hid (b1 < W3.heap.size ∧ w.heap.size < (w4.alloc (boxH (.slice (some ⟨g2, 0, none⟩) os.length c2) p t r (.slice v2 xs.length d2))).heap.size) := ⟨by have h := HW3.out; omega, by have := hb.size; have h := HW3.out; simp; omega⟩
  clear hb hal hg HV3 H1 HW3 HG
  go_wp2_with fail
  obtain ⟨l3, hl3⟩ : ∃ l3, l3 = (w4.alloc (boxH (.slice (some ⟨g2, 0, none⟩) os.length c2) p t r (.slice v2 xs.length d2))).heap.size := ⟨_, rfl⟩
  obtain ⟨W4, hW4⟩ : ∃ W4, W4 = w4.alloc (boxH (.slice (some ⟨g2, 0, none⟩) os.length c2) p t r (.slice v2 xs.length d2)) := ⟨_, rfl⟩
  obtain ⟨b2, hb2⟩ : ∃ b2, b2 = w4.heap.size := ⟨_, rfl⟩
  have hn23 : b2 < l3 := by rw [hb2, hl3]; simp
  rw [← hW4] at HV4 H2 H14 hl3 HN ⊢
  rw [← hb2] at H2 ⊢
  clear hb2 hW4
  have HN2 : Hid (b1 < W3.heap.size ∧ w.heap.size < W4.heap.size ∧ b2 < W4.heap.size) := ⟨HN.out.1, HN.out.2, by rw [← hl3]; exact hn23⟩
  clear hl3 hn23 HN
  refine (HI.out _ _ _ _ H2.out.got.arena H2.out.got.ints).mono ?_
  rintro e w5 ⟨⟨A3, G3, rfl, hg⟩, hb⟩
  have H3 := hid_of (InBox.made (p := p1) (t := t1) (r := r1) H2.out.base HN2.out.2.1 hg hb)
  have hal := below_alloc w5 (boxH A3 p1 t1 r1 G3)
  obtain ⟨g3, c3, v3, d3, rfl, rfl⟩ := hg.form
  have HL5 := hid_of (LawX.mk (keep (keep HV4.out hb) hal) ((H14.out.on hb).on hal) ((H2.out.on hb).on hal) H3.out HN2.out.1 HN2.out.2.2)
  clear hb hal hg HV4 H14 H2 H3 HN2
  obtain ⟨k0, k1, k2, k3, k4⟩ := cells5 HL5.out.x1.box
  go_wp2_with fail
  clear k0 k1 k2 k3 k4
  obtain ⟨l3, hl3⟩ : ∃ l3, l3 = W4.heap.size := ⟨_, rfl⟩
  obtain ⟨l2', hl2⟩ : ∃ l2, l2 = W3.heap.size := ⟨_, rfl⟩
  obtain ⟨l1, hl1⟩ : ∃ h, h = w2.heap.size := ⟨_, rfl⟩
  obtain ⟨b3, hb3⟩ : ∃ h, h = w5.heap.size := ⟨_, rfl⟩
  obtain ⟨W5, hW5⟩ : ∃ W5, W5 = w5.alloc (boxH (.slice (some ⟨g3, 0, none⟩) rs.length c3) p1 t1 r1 (.slice v3 ys.length d3)) := ⟨_, rfl⟩
  rw [← hW5, ← hl3, ← hl2, ← hl1, ← hb3] at HL5
  rw [← hW5]
  rw [← hb3]
  clear hW5 hl3 hl2 hl1 hb3
  refine (HE.out _ _ _ _ _ HL5.out.x3.got.arena HL5.out.x1.got.arena HL5.out.x3.got.ints HL5.out.x1.got.ints).mono ?_
  rintro e w6 ⟨rfl, hb⟩
  have HL6 := hid_of (HL5.out.on hb)
  clear hb HL5
  go_wp2_with fail
  refine wp_region_whole (by kernel_rfl) (by kernel_rfl) (by kernel_rfl) (by kernel_rfl) (Flat (LawX w (.slice aa os.length ca) (.slice ag xs.length cg) p t r os xs l2' b2 b2 (.slice (some ⟨g2, 0, none⟩) os.length c2) (.slice v2 xs.length d2) p1 t1 r1 rs ys l1 b1 b1 (.slice (some ⟨g1, 0, none⟩) rs.length c1) (.slice v1 ys.length d1) l3 b3 b3 (.slice (some ⟨g3, 0, none⟩) rs.length c3) (.slice v3 ys.length d3)) (gEq (LikeH p t r os xs) [hpV (.slice (some ⟨g2, 0, none⟩) os.length c2) p t r (.slice v2 xs.length d2), hpV (.slice aa os.length ca) p t r (.slice ag xs.length cg), undef, .bool true, .bool false])) (flat_start (HL6.out.on (below_draw _))) ?_ ?_
  · refine ⟨?_, ?_, ?_, ?_, ?_, trivial⟩
    · intro b0 us wz L hslot hoth hLi hR hcl hdo K hK
      have s8 : b0.tmps.getD 8 undef = .pointer (some ⟨b2, 0, none⟩) := hoth 8 (by rfl)
      obtain ⟨k0, k1, k2, k3, k4⟩ := cells5 hR.1.box
      clear hslot hoth hdo hcl hLi
      refine guard_none (by rfl) ?_
      go_simp
      exact hK _ _ (flat_mark (hR.1) (fun _ _ h => h) hR.2 ⟨fun h => absurd h (by decide), fun _ => rfl⟩)
    · intro b0 us wz L hslot hoth hLi hR hcl hdo K hK
      have s2 : b0.tmps.getD 2 undef = .pointer (some ⟨w.heap.size, 0, none⟩) := hoth 2 (by rfl)
      obtain ⟨k0, k1, k2, k3, k4⟩ := cells5 hR.1.arg
      clear hslot hoth hdo hcl hLi
      refine guard_none (by rfl) ?_
      go_simp
      exact hK _ _ (flat_mark (hR.1) (fun _ _ h => h) hR.2 ⟨fun h => absurd h (by decide), fun _ => rfl⟩)
    · intro b0 us wz L hslot hoth hLi hR hcl hdo K hK
      have s46 : b0.tmps.getD 46 undef = hpV (.slice aa os.length ca) p t r (.slice ag xs.length cg) := (hslot 1 46 (by rfl)).trans ((hR.2 1 (done_at hdo 1 (by rfl))).2 (by decide))
      clear hslot hoth hdo hcl hLi
      refine guard_none (by rfl) ?_
      go_simp
      refine (HT.out _ hR.1.base).mono ?_
      rintro e w' ⟨⟨u, rfl, hu⟩, hb⟩
      exact hK _ _ (flat_mark (hR.1.on hb) (gEq_on (fun _ h => h.on hb) _) hR.2 ⟨fun _ => hu, fun h => absurd rfl h⟩)
    · intro b0 us wz L hslot hoth hLi hR hcl hdo K hK
      obtain ⟨A2, G2, hu, hA2, hG2⟩ := (hR.2 2 (done_at hdo 2 (by rfl))).1 rfl
      have s45 : b0.tmps.getD 45 undef = hpV (.slice (some ⟨g2, 0, none⟩) os.length c2) p t r (.slice v2 xs.length d2) := (hslot 0 45 (by rfl)).trans ((hR.2 0 (done_at hdo 0 (by rfl))).2 (by decide))
      have s47 : b0.tmps.getD 47 undef = hpV A2 p t r G2 := (hslot 2 47 (by rfl)).trans hu
      clear hslot hoth hdo hcl hLi
      refine guard_none (by rfl) ?_
      go_simp
      refine (HQ.out _ _ _ _ _ hR.1.ar hA2 hR.1.gr hG2).mono ?_
      rintro e w' ⟨rfl, hb⟩
      exact hK _ _ (flat_mark (hR.1.on hb) (gEq_on (fun _ h => h.on hb) _) hR.2 ⟨fun h => absurd h (by decide), fun _ => rfl⟩)
    · intro b0 us wz L hslot hoth hLi hR hcl hdo K hK
      have s48 : b0.tmps.getD 48 undef = .bool true := (hslot 3 48 (by rfl)).trans ((hR.2 3 (done_at hdo 3 (by rfl))).2 (by decide))
      clear hslot hoth hdo hcl hLi
      refine guard_none (by rfl) ?_
      go_simp
      exact hK _ _ (flat_mark (hR.1) (fun _ _ h => h) hR.2 ⟨fun h => absurd h (by decide), fun _ => rfl⟩)
  · intro us wn L hall hR a' ha'
    have g0 : us 0 = hpV (.slice (some ⟨g2, 0, none⟩) os.length c2) p t r (.slice v2 xs.length d2) := (hR.2 0 (hall 0 (by decide))).2 (by decide)
    have g1 : us 1 = hpV (.slice aa os.length ca) p t r (.slice ag xs.length cg) := (hR.2 1 (hall 1 (by decide))).2 (by decide)
    obtain ⟨A2, G2, g2, _, _⟩ := (hR.2 2 (hall 2 (by decide))).1 rfl
    have g3 : us 3 = .bool true := (hR.2 3 (hall 3 (by decide))).2 (by decide)
    have g4 : us 4 = .bool false := (hR.2 4 (hall 4 (by decide))).2 (by decide)
    have HX := hid_of hR.1
    clear hR hall
    simp only [putAll, g0, g1, g2, g3, g4] at ha'
    subst ha'
    go_frame
    obtain ⟨k0, k1, k2, k3, k4⟩ := cells5 HX.out.x2.box
    go_wp2_with fail
    refine (HMX.out _ _ _ _ _ HX.out.x2.got HX.out.x2.size.1 HX.out.x2.size.2).mono ?_
    rintro e w7 ⟨rfl, hg, ht⟩
    have HL7 := hid_of (HX.out.turn2 ht hg)
    clear k0 k1 k2 k3 k4
    clear hg ht HX HMX
    obtain ⟨k0, k1, k2, k3, k4⟩ := cells5 HL7.out.x1.box
    obtain ⟨m0, m1, m2, m3, m4⟩ := cells5 HL7.out.x3.box
    go_wp2_with fail
    refine (HE.out _ _ _ _ _ HL7.out.x3.got.arena HL7.out.x1.got.arena HL7.out.x3.got.ints HL7.out.x1.got.ints).mono ?_
    rintro e w8 ⟨rfl, hb⟩
    have HL8 := hid_of (HL7.out.on hb)
    clear k0 k1 k2 k3 k4 m0 m1 m2 m3 m4
    clear hb HL7
    obtain ⟨k0, k1, k2, k3, k4⟩ := cells5 HL8.out.x3.box
    go_wp2_with fail
    refine (HMR.out _ _ _ _ _ HL8.out.x3.got HL8.out.x3.size.1 HL8.out.x3.size.2).mono ?_
    rintro e w9 ⟨rfl, hg, ht⟩
    have HV9 : Hid (w9.heap[w.heap.size]? = some (boxHL (.slice aa os.length ca) p t r (.slice ag xs.length cg))) := ht.block _ _ HL8.out.arg (.inl HL8.out.x3.low)
    have H19 := hid_of (HL8.out.x1.turned ht (Nat.le_of_lt HL8.out.x3.low) (.inl (by have := HL8.out.n12; have := HL8.out.x2.lh; have := HL8.out.x2.mid; have := HL8.out.n23; omega)))
    have H39 := hid_of (HL8.out.x3.marked ht hg)
    clear k0 k1 k2 k3 k4
    clear hg ht HL8 HMR
    obtain ⟨k0, k1, k2, k3, k4⟩ := cells5 H39.out.box
    go_wp2_with fail
    refine (HH.out _ _ _ H39.out.got.arena H39.out.got.ints).mono ?_
    rintro e w10 ⟨rfl, hb⟩
    have HV10 := hid_of (keep HV9.out hb)
    have H110 := hid_of (H19.out.on hb)
    have H310 := hid_of (H39.out.on hb)
    clear k0 k1 k2 k3 k4
    clear hb HV9 H19 H39
    obtain ⟨k0, k1, k2, k3, k4⟩ := cells5 HV10.out
    go_wp2_with fail
    refine (HS2.out _ H110.out.base).mono ?_
    rintro e w11 ⟨⟨gb2, gu2, rfl, hA4, hG4⟩, hb⟩
    have H111 := hid_of (H110.out.on hb)
    have H311 := hid_of (H310.out.on hb)
    clear k0 k1 k2 k3 k4
    clear hb HV10 H110 H310 HT HS2
    have HI4 := hid_of (And.intro hA4 hG4)
    clear hA4 hG4
    go_wp2_with fail
    refine (HI.out _ _ _ _ HI4.out.1 HI4.out.2).mono ?_
    rintro e w12 ⟨⟨A5, G5, rfl, hg⟩, hb⟩
    have HZ : Hid (w.heap.size < w11.heap.size) := by show _ < _; have := H311.out.low; have := H311.out.size; omega
    have H5 := hid_of (InBox.made (p := p1) (t := t1) (r := r1) H111.out.base HZ.out hg hb)
    have hal := below_alloc w12 (boxH A5 p1 t1 r1 G5)
    obtain ⟨g5, c5, v5, d5, rfl, rfl⟩ := hg.form
    have H112 := hid_of ((H111.out.on hb).on hal)
    have H312 := hid_of ((H311.out.on hb).on hal)
    clear hb hal hg H111 H311 HI4 HZ HI
    obtain ⟨k0, k1, k2, k3, k4⟩ := cells5 H112.out.box
    go_wp2_with fail
    clear k0 k1 k2 k3 k4
    refine (HE.out _ _ _ _ _ H5.out.got.arena H112.out.got.arena H5.out.got.ints H112.out.got.ints).mono ?_
    rintro e w13 ⟨rfl, hb⟩
    have H313 := hid_of (H312.out.on hb)
    clear hb H112 H312 H5 HE
    obtain ⟨k0, k1, k2, k3, k4⟩ := cells5 H313.out.box
    go_wp2_with fail
    refine (HH.out _ _ _ H313.out.got.arena H313.out.got.ints).mono ?_
    rintro e w14 ⟨rfl, hb⟩
    have H314 := hid_of (H313.out.on hb)
    clear k0 k1 k2 k3 k4
    clear hb H313
    go_wp2
    go_ret
    exact ⟨rfl, H314.out.base⟩
set_option maxHeartbeats 2000000 in
theorem big (a : Value) (p t r : Int) (g : Value) (os : List Ob) (xs : List Int) (z : Int) (w : World) (ha : IsArena w a os) (hx : IsInts w g xs) (hm : os.length ≤ maxLen) (hn : xs.length ≤ maxLen) (hf : ∀ i, Sound8 (obAt os i)) (hr : -9223372036854775808 ≤ r ∧ r ≤ 9223372036854775807) (ht : -9223372036854775808 ≤ t ∧ t ≤ 9223372036854775807) (hz : -9223372036854775808 ≤ z ∧ z ≤ 9223372036854775807) (h : ¬ hpN os xs ≤ 1048576) :
    Calls Tryz.prog 5 #[hpV a p t r g, .int .i64 z] w fun e w' => e = .returned (.bool true) ∧ Below w.heap.size w w' := by
  unfold maxLen at hm hn
  have HC : Hid (∀ w', Below w.heap.size w w' → Calls Tryz.prog 7 #[hpV a p t r g, .int .i64 1048576] w' fun e w'' => e = .returned (.int .i64 (-1)) ∧ Below w'.heap.size w' w'') := fun w' hb => by
    have e := szHeap_any a p t r g os xs 1048576 w' (ha.on hb) (hx.on hb) (by omega) (by omega) (by omega) (wide8 hf) (by omega)
    rw [szOf_no (by omega)] at e
    exact e
  obtain ⟨aa, ca, rfl, _, _⟩ := id ha
  obtain ⟨ag, cg, rfl, _, _⟩ := id hx
  clear ha hx hm hn hf h hr ht
  go_enter Tryz.func5, Tryz.ntmps5
  go_wp2_with fail
  refine (HC.out _ (by go_grown)).mono ?_
  rintro e w1 ⟨rfl, hb⟩
  have HB1 : Hid (Below w.heap.size w w1) := below_more (by go_grown) hb
  clear hb HC
  go_wp2
  go_ret
  exact ⟨rfl, HB1.out⟩
end LGcStep
theorem walkGcStep (a : Value) (p t r : Int) (g : Value) (os : List Ob) (xs : List Int) (z : Int) (w : World) (ha : IsArena w a os) (hx : IsInts w g xs) (hm : os.length ≤ maxLen) (hn : xs.length ≤ maxLen) (hf : ∀ i, Sound8 (obAt os i)) (hr : -9223372036854775808 ≤ r ∧ r ≤ 9223372036854775807) (ht : -9223372036854775808 ≤ t ∧ t ≤ 9223372036854775807) (hz : -9223372036854775808 ≤ z ∧ z ≤ 9223372036854775807) :
    Calls Tryz.prog 5 #[hpV a p t r g, .int .i64 z] w fun e w' => e = .returned (.bool true) ∧ Below w.heap.size w w' := by
  by_cases h : hpN os xs ≤ 1048576
  · exact LGcStep.small a p t r g os xs z w ha hx hm hn hf hr ht hz h
  · exact LGcStep.big a p t r g os xs z w ha hx hm hn hf hr ht hz h
namespace GcStep
set_option maxRecDepth 100000 in
theorem lifted (os : Os) (started : os.Started) (H : Type) (enc : TypeId × Value → H) :
    ReturnsInHanded {} Tryz.checked os 5 .any (Rows.fnExactGcStepSpec.pre6 enc Tryz.prog Tryz.f5 Rows.fnExactGcStepRow.domain false) (Rows.fnExactGcStepSpec.post enc Tryz.prog Tryz.f5 false true false false) := by
  refine returnsInHanded_of_change (C := Tryz.checked) own started (by kernel_rfl) Tryz.func5
    (ChangeSpec.witness6 (enc := enc) (C := Tryz.checked) false ⟨#[], #[.agg #[.slice none 0 0, .int .i64 0, .int .i64 0, .int .i64 0, .slice none 0 0], .int .i64 0], []⟩ 8 (by kernel_rfl) (by kernel_rfl) (by kernel_rfl) (by kernel_rfl)) ?_
  intro W base args ds gs before hval0 hW hcnd _
  have hval : ∀ (j : Nat) t v, Tryz.f5.params[j]? = some t → args[j]? = some v → Value.okWide Tryz.prog W .any base t v := hval0
  have hW' := hW
  obtain ⟨p, q, hA0, hV, rfl, hfz, hnd⟩ := hW
  have hA : DataW.TrodAll enc Tryz.prog W 0 (fun _ => true) true Tryz.f5.params.toList args.toList ds p := hA0
  rw [Tryz.params5] at hA hval
  obtain ⟨v0, vs0, d0, ds0, p0, q0, hargs, rfl, rfl, h0, r0⟩ := trodAll_cons hA
  obtain ⟨v1, vs1, d1, ds1, p1, q1, hargs1, rfl, rfl, h1, r1⟩ := trodAll_cons r0
  obtain ⟨rfl, rfl, rfl⟩ := trodAll_nil r1
  obtain rfl : args = #[v0, v1] := by cases args; simp_all
  obtain ⟨rfl, rfl⟩ := trodVars_none hV
  obtain ⟨a0, x0, t0, y0, g0, os0, xs0, rfl, i0, j0, m0, n0, f0, e0, b0⟩ := open_heap (hval 0 27 v0 rfl rfl) h0
  have k0 := h0
  have lt0 : ∀ x ∈ p0, x.block < W.heap.size := by obtain ⟨m, hm⟩ := k0; exact DataW.trod_lt m _ _ _ hm
  obtain ⟨z1, rfl, f1⟩ := open_int64 (hval 1 3 v1 rfl rfl) h1
  have k1 := h1
  have lt1 : ∀ x ∈ p1, x.block < W.heap.size := by obtain ⟨m, hm⟩ := k1; exact DataW.trod_lt m _ _ _ hm
  clear hA0 hval0
  refine (walkGcStep a0 x0 t0 y0 g0 os0 xs0 z1 W i0 j0 m0 n0 f0 e0 b0 f1).mono fun e W' ⟨he, bel⟩ => ?_
  subst he
  exact ⟨_, rfl, _, _, _, [], _, [], hW', trodAll_mk1 (shut_bool Tryz.underlying4 _), (trodAll_cons_mk (Below.trod laidOut (by kernel_rfl) (of_decide_eq_true (by kernel_rfl)) k0 bel lt0) (trodAll_cons_mk (Below.trod laidOut (by kernel_rfl) (of_decide_eq_true (by kernel_rfl)) k1 bel lt1) trodAll_mk0)), rfl, bel.frame _, fun h => by cases h⟩

theorem over : Rows.fnExactGcStepRow.holds Tryz.pinned (OpenSpec.ofChange Rows.fnExactGcStepSpec) :=
  OpenClaim.holds_of_wide 5 Tryz.f5 rfl rfl rfl rfl rfl rfl rfl ⟨rfl, rfl, rfl, rfl, rfl⟩ rfl rfl rfl rfl rfl (by kernel_rfl) Tryz.func5 (by kernel_rfl)
    (of_decide_eq_true (by kernel_rfl)) (by unfold Func.isWrapper; first | (rw [if_pos (by decide +kernel)]; kernel_rfl) | (rw [if_neg (by decide +kernel)]; exact ⟨rfl, rfl⟩))
    (fun os started H enc _ => lifted os started H enc)
end GcStep
theorem gcStep_holds : Rows.FnExactGcStepSaid := GcStep.over
#print axioms gcStep_holds
end Go.Proofs.YtbdljoldblpffaaGreat
