/-
  The program's TreeBack.
-/
import Derived.Test.YtfcenombphodbaaDoorClone
namespace Go.Proofs.YtfcenombphodbaaDoor
open Go.RowKit
set_option linter.unusedVariables false
set_option maxRecDepth 100000

theorem live_eq {ts : List Re} (h : treeOk ts = true) (i : Int) : livePl ts i = liveIn ts i := by
  have hl := treeOk_five h
  have e : decide (i < 5) = decide (i ≤ 4) := by
    by_cases h4 : i ≤ 4
    · rw [decide_eq_true h4, decide_eq_true (by omega)]
    · rw [decide_eq_false h4, decide_eq_false (by omega)]
  unfold livePl liveIn
  rw [h, hl]
  simp only [Bool.true_and, Int.cast_ofNat_Int, e]
theorem backOf_length (ts : List Re) (i a b c : Int) : (backOf ts i a b c).length = ts.length := by
  unfold backOf backT; split <;> simp
set_option maxRecDepth 100000 in
set_option maxHeartbeats 8000000 in
theorem implBack_any (p : Addr) (cap : Nat) (ts : List Re) (i0 a b c : Int) (w : World) (hx : IsTree w (.slice (some p) ts.length cap) ts) (hn : ts.length ≤ 1048576) :
    Calls Tryd.prog 22 #[.slice (some p) ts.length cap, .int .i64 i0, amt a b c] w fun e w' => TreeAns ts.length (backOf ts i0 a b c) (backOk ts a b c) w e w' := by
  have hb0 : Below w.heap.size w (w.alloc (boxA a b c)) := below_alloc w _
  have CC := implClone_any p ts.length cap ts (w.alloc (boxA a b c)) (hx.on hb0) rfl hn
  have HCO : Hid (∀ w', Below w.heap.size w w' → Calls Tryd.prog 55 #[.slice (some p) ts.length cap] w' fun e w'' => e = .returned (.bool (treeOk ts)) ∧ Below w'.heap.size w' w'') := fun w' hb => implTreeOk_any _ ts w' (hx.on hb) hn
  have HCL : Hid (∀ w', Below w.heap.size w w' → Calls Tryd.prog 51 #[.slice (some p) ts.length cap, .int .i64 i0] w' fun e w'' => e = .returned (.bool (livePl ts i0)) ∧ w' = w'') := fun w' hb => implLive_any _ ts i0 w' (hx.on hb) hn
  have HX0 : Hid (Box3 (w.alloc (boxA a b c)) w.heap.size 37 a b c) := ⟨heap_alloc_new w _⟩
  have HB0 : Hid (Below w.heap.size w (w.alloc (boxA a b c))) := hb0
  have HXX : Hid (IsTree w (.slice (some p) ts.length cap) ts) := hx
  have HL : Hid (ts.length ≤ 1048576) := hn
  clear hx hb0 hn
  cases hok : treeOk ts with
  | false =>
    have e1 : backOk ts a b c = false := by simp [backOk, hok]
    have e2 : backOf ts i0 a b c = ts := by simp [backOf, e1]
    rw [e1, e2]
    rw [hok] at HCO
    clear hok e1 e2 HXX HCL
    go_enter Tryd.func22, Tryd.ntmps22
    go_wp2_with fail
    refine CC.mono ?_
    rintro e w1 ⟨g, c1, rs, rfl, ho, hb⟩
    have HB1 : Hid (Below w.heap.size w w1) := below_more HB0.out hb
    have HO1 : Hid (OwnT g c1 ts rs w.heap.size w1.heap.size w1) := ho.lower HB0.out.size
    have HX1 : Hid (Box3 w1 w.heap.size 37 a b c) := box_on HX0.out hb
    clear CC hb ho HX0 HB0
    go_wp2_with fail
    refine (HCO.out w1 HB1.out).mono ?_
    rintro e w2 ⟨rfl, hb⟩
    have HB2 : Hid (Below w.heap.size w w2) := below_more HB1.out hb
    have HO2 := hid_of (HO1.out.on hb).more
    have HX2 : Hid (Box3 w2 w.heap.size 37 a b c) := box_on HX1.out hb
    clear HCO hb HO1 HX1 HB1
    go_wp2
    go_returns
    exact ⟨g, c1, rs, rfl, HO2.out, HB2.out⟩
  | true =>
    have hl := treeOk_five hok
    have HL5 : Hid (ts.length = 5) := hl
    rw [hok] at HCO
    rw [live_eq hok] at HCL
    have es : ∀ f, sumT f ts = sumN f ts 5 := fun f => by simp [sumT, hok]
    have HSM : Hid (∀ w', Below w.heap.size w w' → Calls Tryd.prog 36 #[.slice (some p) ts.length cap] w' fun e w'' => e = .returned (amt (sumN Re.a ts 5) (sumN Re.b ts 5) (sumN Re.c ts 5)) ∧ Below w'.heap.size w' w'') := fun w' hb => by
      have := implTreeSum_any _ ts w' (HXX.out.on hb) HL.out
      rw [es, es, es] at this
      exact this
    cases hadd : addOk (sumN Re.a ts 5) (sumN Re.b ts 5) (sumN Re.c ts 5) a b c with
    | false =>
      have e1 : backOk ts a b c = false := by simp [backOk, hok, hadd]
      have e2 : backOf ts i0 a b c = ts := by simp [backOf, e1]
      have CA := fun w => implAdd_no _ _ _ a b c w hadd
      rw [e1, e2]
      clear hok e1 e2 HXX HCL hadd hl es
      generalize sumN Re.a ts 5 = s1 at HSM CA
      generalize sumN Re.b ts 5 = s2 at HSM CA
      generalize sumN Re.c ts 5 = s3 at HSM CA
      go_enter Tryd.func22, Tryd.ntmps22
      go_wp2_with fail
      refine CC.mono ?_
      rintro e w1 ⟨g, c1, rs, rfl, ho, hb⟩
      have HB1 : Hid (Below w.heap.size w w1) := below_more HB0.out hb
      have HO1 : Hid (OwnT g c1 ts rs w.heap.size w1.heap.size w1) := ho.lower HB0.out.size
      have HX1 : Hid (Box3 w1 w.heap.size 37 a b c) := box_on HX0.out hb
      clear CC hb ho HX0 HB0
      go_wp2_with fail
      refine (HCO.out w1 HB1.out).mono ?_
      rintro e w2 ⟨rfl, hb⟩
      have HB2 : Hid (Below w.heap.size w w2) := below_more HB1.out hb
      have HO2 := hid_of (HO1.out.on hb).more
      have HX2 : Hid (Box3 w2 w.heap.size 37 a b c) := box_on HX1.out hb
      clear HCO hb HO1 HX1 HB1
      go_wp2_with fail
      refine wp_region_whole (by kernel_rfl) (by kernel_rfl) (by kernel_rfl) (by kernel_rfl) (AnsR w2 7 8 [.slice (some p) ts.length cap, amt s1 s2 s3, amt a b c, .tuple #[amt s1 s2 s3, .bool false], .tuple #[amt s1 s2 s3, .bool false], amt s1 s2 s3, .bool false, undef, undef, .bool false] s1 s2 s3) (ansR_start w2 7 8 _ _ _ _) ?_ ?_
      · refine ⟨?_, ?_, ?_, ?_, ?_, ?_, ?_, ?_, ?_, ?_, trivial⟩
        · intro b0 us wz L hslot hoth hLi hR hcl hdo K hK
          have s0 : b0.tmps.getD 0 undef = .slice (some p) ts.length cap := hoth 0 (by rfl)
          clear hslot hoth hdo hcl hLi
          refine guard_none (by rfl) ?_
          go_simp
          exact hK _ _ (hR.mark (by decide) (by decide) (Below.refl _ _) rfl)
        · intro b0 us wz L hslot hoth hLi hR hcl hdo K hK
          have s18 : b0.tmps.getD 18 undef = .slice (some p) ts.length cap := (hslot 0 18 (by rfl)).trans (hR.vals 0 (done_at hdo 0 (by rfl)) (by decide))
          clear hslot hoth hdo hcl hLi
          refine guard_none (by rfl) ?_
          go_simp
          refine (HSM.out wz (below_more HB2.out hR.below)).mono ?_
          rintro e w' ⟨rfl, hb⟩
          exact hK _ _ (hR.mark (by decide) (by decide) hb rfl)
        · intro b0 us wz L hslot hoth hLi hR hcl hdo K hK
          have s5 : b0.tmps.getD 5 undef = .pointer (some ⟨w.heap.size, 0, none⟩) := hoth 5 (by rfl)
          have bb := box_on HX2.out hR.below
          have k0 := bb.c0
          have k1 := bb.c1
          have k2 := bb.c2
          clear bb
          clear hslot hoth hdo hcl hLi
          refine guard_none (by rfl) ?_
          go_simp
          exact hK _ _ (hR.mark (by decide) (by decide) (Below.refl _ _) rfl)
        · intro b0 us wz L hslot hoth hLi hR hcl hdo K hK
          have s19 : b0.tmps.getD 19 undef = amt s1 s2 s3 := (hslot 1 19 (by rfl)).trans (hR.vals 1 (done_at hdo 1 (by rfl)) (by decide))
          have s20 : b0.tmps.getD 20 undef = amt a b c := (hslot 2 20 (by rfl)).trans (hR.vals 2 (done_at hdo 2 (by rfl)) (by decide))
          clear hslot hoth hdo hcl hLi
          refine guard_none (by rfl) ?_
          go_simp
          refine (CA wz).mono ?_
          rintro e w' ⟨rfl, hb⟩
          exact hK _ _ (hR.mark (by decide) (by decide) hb rfl)
        · intro b0 us wz L hslot hoth hLi hR hcl hdo K hK
          have s21 : b0.tmps.getD 21 undef = .tuple #[amt s1 s2 s3, .bool false] := (hslot 3 21 (by rfl)).trans (hR.vals 3 (done_at hdo 3 (by rfl)) (by decide))
          clear hslot hoth hdo hcl hLi
          refine guard_none (by rfl) ?_
          go_simp
          exact hK _ _ (hR.mark (by decide) (by decide) (Below.refl _ _) rfl)
        · intro b0 us wz L hslot hoth hLi hR hcl hdo K hK
          have s17 : b0.tmps.getD 17 undef = .tuple #[amt s1 s2 s3, .bool false] := (hslot 4 17 (by rfl)).trans (hR.vals 4 (done_at hdo 4 (by rfl)) (by decide))
          clear hslot hoth hdo hcl hLi
          refine guard_none (by rfl) ?_
          go_simp
          exact hK _ _ (hR.mark (by decide) (by decide) (Below.refl _ _) rfl)
        · intro b0 us wz L hslot hoth hLi hR hcl hdo K hK
          have s17 : b0.tmps.getD 17 undef = .tuple #[amt s1 s2 s3, .bool false] := (hslot 4 17 (by rfl)).trans (hR.vals 4 (done_at hdo 4 (by rfl)) (by decide))
          clear hslot hoth hdo hcl hLi
          refine guard_none (by rfl) ?_
          go_simp
          exact hK _ _ (hR.mark (by decide) (by decide) (Below.refl _ _) rfl)
        · intro b0 us wz L hslot hoth hLi hR hcl hdo K hK
          have hs : L 8 = false := by
            cases h : L 8 with
            | false => rfl
            | true => rw [done_at (hcl 8 _ rfl h) 7 (by rfl)] at hLi; cases hLi
          clear hslot hoth hdo hcl hLi
          refine guard_none (by rfl) ?_
          go_simp
          exact hK _ _ (hR.new (by decide) hs)
        · intro b0 us wz L hslot hoth hLi hR hcl hdo K hK
          have da := done_at hdo 7 (by rfl)
          obtain ⟨gb, p_, q_, r_, hu, hge, hbx, _⟩ := hR.box da
          have s9 : b0.tmps.getD 9 undef = .pointer (some ⟨gb, 0, none⟩) := (hslot 7 9 (by rfl)).trans hu
          have s22 : b0.tmps.getD 22 undef = amt s1 s2 s3 := (hslot 5 22 (by rfl)).trans (hR.vals 5 (done_at hdo 5 (by rfl)) (by decide))
          have k0 := hbx.c0
          have k1 := hbx.c1
          have k2 := hbx.c2
          have f0 := hbx.f0 0
          have f1 := hbx.f0 1
          have f2 := hbx.f0 2
          clear hslot hoth hdo hcl hLi
          refine guard_none (by rfl) ?_
          go_simp
          exact hK undef _ (hR.put (by decide) rfl da hu)
        · intro b0 us wz L hslot hoth hLi hR hcl hdo K hK
          have s23 : b0.tmps.getD 23 undef = .bool false := (hslot 6 23 (by rfl)).trans (hR.vals 6 (done_at hdo 6 (by rfl)) (by decide))
          clear hslot hoth hdo hcl hLi
          refine guard_none (by rfl) ?_
          go_simp
          exact hK _ _ (hR.mark (by decide) (by decide) (Below.refl _ _) rfl)
      · intro us wn L hall hR a' ha'
        have g0 : us 0 = .slice (some p) ts.length cap := hR.vals 0 (hall 0 (by decide)) (by decide)
        have g1 : us 1 = amt s1 s2 s3 := hR.vals 1 (hall 1 (by decide)) (by decide)
        have g2 : us 2 = amt a b c := hR.vals 2 (hall 2 (by decide)) (by decide)
        have g3 : us 3 = .tuple #[amt s1 s2 s3, .bool false] := hR.vals 3 (hall 3 (by decide)) (by decide)
        have g4 : us 4 = .tuple #[amt s1 s2 s3, .bool false] := hR.vals 4 (hall 4 (by decide)) (by decide)
        have g5 : us 5 = amt s1 s2 s3 := hR.vals 5 (hall 5 (by decide)) (by decide)
        have g6 : us 6 = .bool false := hR.vals 6 (hall 6 (by decide)) (by decide)
        have g9 : us 9 = .bool false := hR.vals 9 (hall 9 (by decide)) (by decide)
        obtain ⟨gb, p_, q_, r_, g7, hge, hbx, hfill⟩ := hR.box (hall 7 (by decide))
        obtain ⟨h1_, h2_, h3_⟩ := hfill (hall 8 (by decide))
        rw [h1_, h2_, h3_] at hbx
        clear h1_ h2_ h3_ hfill
        have HBN : Hid (Below w2.heap.size w2 wn) := hR.below
        clear hbx hge
        clear hR hall
        simp only [putAll, g0, g1, g2, g3, g4, g5, g6, g7, g9] at ha'
        subst ha'
        go_frame
        have HB3 : Hid (Below w.heap.size w wn) := below_more HB2.out HBN.out
        have HO3 := hid_of (HO2.out.on HBN.out).more
        have HX3 : Hid (Box3 wn w.heap.size 37 a b c) := box_on HX2.out HBN.out
        clear HBN HO2 HB2 HX2 HSM CA
        go_wp2
        go_returns
        exact ⟨g, c1, rs, rfl, HO3.out, HB3.out⟩
    | true =>
      have e1 : backOk ts a b c = true := by simp [backOk, hok, hadd]
      have e2 : backOf ts i0 a b c = backT ts i0 a b c := by simp [backOf, e1]
      have CA := fun w => implAdd_yes _ _ _ a b c w hadd
      rw [e1, e2]
      cases hlive : liveIn ts i0 with
      | true =>
        obtain ⟨m, rfl, hm⟩ : ∃ m : Nat, i0 = (m : Int) ∧ m < 5 := by
          unfold liveIn at hlive; simp at hlive
          exact ⟨i0.toNat, by omega, by omega⟩
        have hlvm : (reAt ts m).live = true := by unfold liveIn at hlive; simp at hlive; exact hlive.2
        have hat : backAt ts (m : Int) = m := by simp [backAt, hlive]
        have hbt : backT ts (m : Int) a b c = ts.set m (addR (reAt ts m) a b c) := by simp only [backT, hat, addR]
        have HAD : Hid (addOk (reAt ts m).a (reAt ts m).b (reAt ts m).c a b c = true) := addOk_one hok hadd hm hlvm
        have HM : Hid (m < ts.length) := by show _ < _; omega
        rw [hbt]
        rw [hlive] at HCL
        clear hok e1 e2 HXX hadd hl es hat hbt hlvm hlive hm
        generalize sumN Re.a ts 5 = s1 at HSM CA
        generalize sumN Re.b ts 5 = s2 at HSM CA
        generalize sumN Re.c ts 5 = s3 at HSM CA
        obtain ⟨xa, hxa⟩ : ∃ x, x = s1 + a := ⟨_, rfl⟩
        obtain ⟨xb, hxb⟩ : ∃ x, x = s2 + b := ⟨_, rfl⟩
        obtain ⟨xc, hxc⟩ : ∃ x, x = s3 + c := ⟨_, rfl⟩
        rw [← hxa, ← hxb, ← hxc] at CA
        clear hxa hxb hxc
        go_enter Tryd.func22, Tryd.ntmps22
        go_wp2_with fail
        refine CC.mono ?_
        rintro e w1 ⟨g, c1, rs, rfl, ho, hb⟩
        have HB1 : Hid (Below w.heap.size w w1) := below_more HB0.out hb
        have HO1 : Hid (OwnT g c1 ts rs w.heap.size w1.heap.size w1) := ho.lower HB0.out.size
        have HX1 : Hid (Box3 w1 w.heap.size 37 a b c) := box_on HX0.out hb
        clear CC hb ho HX0 HB0
        go_wp2_with fail
        refine (HCO.out w1 HB1.out).mono ?_
        rintro e w2 ⟨rfl, hb⟩
        have HB2 : Hid (Below w.heap.size w w2) := below_more HB1.out hb
        have HO2 := hid_of (HO1.out.on hb).more
        have HX2 : Hid (Box3 w2 w.heap.size 37 a b c) := box_on HX1.out hb
        clear HCO hb HO1 HX1 HB1
        go_wp2_with fail
        refine wp_region_whole (by kernel_rfl) (by kernel_rfl) (by kernel_rfl) (by kernel_rfl) (AnsR w2 7 8 [.slice (some p) ts.length cap, amt s1 s2 s3, amt a b c, .tuple #[amt xa xb xc, .bool true], .tuple #[amt xa xb xc, .bool true], amt xa xb xc, .bool true, undef, undef, .bool true] xa xb xc) (ansR_start w2 7 8 _ _ _ _) ?_ ?_
        · refine ⟨?_, ?_, ?_, ?_, ?_, ?_, ?_, ?_, ?_, ?_, trivial⟩
          · intro b0 us wz L hslot hoth hLi hR hcl hdo K hK
            have s0 : b0.tmps.getD 0 undef = .slice (some p) ts.length cap := hoth 0 (by rfl)
            clear hslot hoth hdo hcl hLi
            refine guard_none (by rfl) ?_
            go_simp
            exact hK _ _ (hR.mark (by decide) (by decide) (Below.refl _ _) rfl)
          · intro b0 us wz L hslot hoth hLi hR hcl hdo K hK
            have s18 : b0.tmps.getD 18 undef = .slice (some p) ts.length cap := (hslot 0 18 (by rfl)).trans (hR.vals 0 (done_at hdo 0 (by rfl)) (by decide))
            clear hslot hoth hdo hcl hLi
            refine guard_none (by rfl) ?_
            go_simp
            refine (HSM.out wz (below_more HB2.out hR.below)).mono ?_
            rintro e w' ⟨rfl, hb⟩
            exact hK _ _ (hR.mark (by decide) (by decide) hb rfl)
          · intro b0 us wz L hslot hoth hLi hR hcl hdo K hK
            have s5 : b0.tmps.getD 5 undef = .pointer (some ⟨w.heap.size, 0, none⟩) := hoth 5 (by rfl)
            have bb := box_on HX2.out hR.below
            have k0 := bb.c0
            have k1 := bb.c1
            have k2 := bb.c2
            clear bb
            clear hslot hoth hdo hcl hLi
            refine guard_none (by rfl) ?_
            go_simp
            exact hK _ _ (hR.mark (by decide) (by decide) (Below.refl _ _) rfl)
          · intro b0 us wz L hslot hoth hLi hR hcl hdo K hK
            have s19 : b0.tmps.getD 19 undef = amt s1 s2 s3 := (hslot 1 19 (by rfl)).trans (hR.vals 1 (done_at hdo 1 (by rfl)) (by decide))
            have s20 : b0.tmps.getD 20 undef = amt a b c := (hslot 2 20 (by rfl)).trans (hR.vals 2 (done_at hdo 2 (by rfl)) (by decide))
            clear hslot hoth hdo hcl hLi
            refine guard_none (by rfl) ?_
            go_simp
            refine (CA wz).mono ?_
            rintro e w' ⟨rfl, hb⟩
            exact hK _ _ (hR.mark (by decide) (by decide) hb rfl)
          · intro b0 us wz L hslot hoth hLi hR hcl hdo K hK
            have s21 : b0.tmps.getD 21 undef = .tuple #[amt xa xb xc, .bool true] := (hslot 3 21 (by rfl)).trans (hR.vals 3 (done_at hdo 3 (by rfl)) (by decide))
            clear hslot hoth hdo hcl hLi
            refine guard_none (by rfl) ?_
            go_simp
            exact hK _ _ (hR.mark (by decide) (by decide) (Below.refl _ _) rfl)
          · intro b0 us wz L hslot hoth hLi hR hcl hdo K hK
            have s17 : b0.tmps.getD 17 undef = .tuple #[amt xa xb xc, .bool true] := (hslot 4 17 (by rfl)).trans (hR.vals 4 (done_at hdo 4 (by rfl)) (by decide))
            clear hslot hoth hdo hcl hLi
            refine guard_none (by rfl) ?_
            go_simp
            exact hK _ _ (hR.mark (by decide) (by decide) (Below.refl _ _) rfl)
          · intro b0 us wz L hslot hoth hLi hR hcl hdo K hK
            have s17 : b0.tmps.getD 17 undef = .tuple #[amt xa xb xc, .bool true] := (hslot 4 17 (by rfl)).trans (hR.vals 4 (done_at hdo 4 (by rfl)) (by decide))
            clear hslot hoth hdo hcl hLi
            refine guard_none (by rfl) ?_
            go_simp
            exact hK _ _ (hR.mark (by decide) (by decide) (Below.refl _ _) rfl)
          · intro b0 us wz L hslot hoth hLi hR hcl hdo K hK
            have hs : L 8 = false := by
              cases h : L 8 with
              | false => rfl
              | true => rw [done_at (hcl 8 _ rfl h) 7 (by rfl)] at hLi; cases hLi
            clear hslot hoth hdo hcl hLi
            refine guard_none (by rfl) ?_
            go_simp
            exact hK _ _ (hR.new (by decide) hs)
          · intro b0 us wz L hslot hoth hLi hR hcl hdo K hK
            have da := done_at hdo 7 (by rfl)
            obtain ⟨gb, p_, q_, r_, hu, hge, hbx, _⟩ := hR.box da
            have s9 : b0.tmps.getD 9 undef = .pointer (some ⟨gb, 0, none⟩) := (hslot 7 9 (by rfl)).trans hu
            have s22 : b0.tmps.getD 22 undef = amt xa xb xc := (hslot 5 22 (by rfl)).trans (hR.vals 5 (done_at hdo 5 (by rfl)) (by decide))
            have k0 := hbx.c0
            have k1 := hbx.c1
            have k2 := hbx.c2
            have f0 := hbx.f0 0
            have f1 := hbx.f0 1
            have f2 := hbx.f0 2
            clear hslot hoth hdo hcl hLi
            refine guard_none (by rfl) ?_
            go_simp
            exact hK undef _ (hR.put (by decide) rfl da hu)
          · intro b0 us wz L hslot hoth hLi hR hcl hdo K hK
            have s23 : b0.tmps.getD 23 undef = .bool true := (hslot 6 23 (by rfl)).trans (hR.vals 6 (done_at hdo 6 (by rfl)) (by decide))
            clear hslot hoth hdo hcl hLi
            refine guard_none (by rfl) ?_
            go_simp
            exact hK _ _ (hR.mark (by decide) (by decide) (Below.refl _ _) rfl)
        · intro us wn L hall hR a' ha'
          have g0 : us 0 = .slice (some p) ts.length cap := hR.vals 0 (hall 0 (by decide)) (by decide)
          have g1 : us 1 = amt s1 s2 s3 := hR.vals 1 (hall 1 (by decide)) (by decide)
          have g2 : us 2 = amt a b c := hR.vals 2 (hall 2 (by decide)) (by decide)
          have g3 : us 3 = .tuple #[amt xa xb xc, .bool true] := hR.vals 3 (hall 3 (by decide)) (by decide)
          have g4 : us 4 = .tuple #[amt xa xb xc, .bool true] := hR.vals 4 (hall 4 (by decide)) (by decide)
          have g5 : us 5 = amt xa xb xc := hR.vals 5 (hall 5 (by decide)) (by decide)
          have g6 : us 6 = .bool true := hR.vals 6 (hall 6 (by decide)) (by decide)
          have g9 : us 9 = .bool true := hR.vals 9 (hall 9 (by decide)) (by decide)
          obtain ⟨gb, p_, q_, r_, g7, hge, hbx, hfill⟩ := hR.box (hall 7 (by decide))
          obtain ⟨h1_, h2_, h3_⟩ := hfill (hall 8 (by decide))
          rw [h1_, h2_, h3_] at hbx
          clear h1_ h2_ h3_ hfill
          have HBN : Hid (Below w2.heap.size w2 wn) := hR.below
          clear hbx hge
          clear hR hall
          simp only [putAll, g0, g1, g2, g3, g4, g5, g6, g7, g9] at ha'
          subst ha'
          go_frame
          have HB3 : Hid (Below w.heap.size w wn) := below_more HB2.out HBN.out
          have HO3 := hid_of (HO2.out.on HBN.out).more
          have HX3 : Hid (Box3 wn w.heap.size 37 a b c) := box_on HX2.out HBN.out
          clear HBN HO2 HB2 HX2 HSM CA
          have CB : Hid (∀ w', TreeIn w' g ts rs → Calls Tryd.prog 57 #[.slice (some ⟨g, 0, none⟩) ts.length c1, .int .i64 ((m : Nat) : Int), amt a b c] w' fun e w'' => e = .returned (.tuple #[]) ∧ TreeIn w'' g (ts.set m (addR (reAt ts m) a b c)) rs ∧ w'.grownBy w'' (some g)) := fun w' h => implBring_any g ts.length c1 ts rs m a b c w' h rfl HO3.out.cap HM.out HL.out HAD.out
          go_wp2_with fail
          refine (HCL.out wn HB3.out).mono ?_
          rintro e w4 ⟨rfl, hw4⟩
          subst hw4
          have k0 := HX3.out.c0
          have k1 := HX3.out.c1
          have k2 := HX3.out.c2
          clear HCL
          go_wp2_with fail
          refine (CB.out _ HO3.out.at').mono ?_
          rintro e w5 ⟨rfl, ht5, hg5⟩
          have HE : Hid (OwnT g c1 (ts.set m (addR (reAt ts m) a b c)) rs w.heap.size w5.heap.size w5) := ⟨ht5, by simpa using HO3.out.cap, HO3.out.lo, lt_of_block ht5⟩
          have HB5 : Hid (Below w.heap.size w w5) := HB3.out.grown hg5 HB3.out.size fun k e => by cases e; exact HO3.out.lo
          clear ht5 hg5 HO3 HX3 HB3 CB k0 k1 k2
          go_wp2
          go_returns
          exact ⟨g, c1, rs, rfl, HE.out, HB5.out⟩
      | false =>
        have hat : backAt ts i0 = 0 := by simp [backAt, hlive]
        have hbt : backT ts i0 a b c = ts.set 0 (addR (reAt ts 0) a b c) := by simp only [backT, hat, addR]
        have HAD : Hid (addOk (reAt ts 0).a (reAt ts 0).b (reAt ts 0).c a b c = true) := addOk_one hok hadd (by omega) (treeOk_rlive hok)
        have HM : Hid (0 < ts.length) := by show _ < _; omega
        rw [hbt]
        rw [hlive] at HCL
        clear hok e1 e2 HXX hadd hl es hat hbt hlive
        generalize sumN Re.a ts 5 = s1 at HSM CA
        generalize sumN Re.b ts 5 = s2 at HSM CA
        generalize sumN Re.c ts 5 = s3 at HSM CA
        obtain ⟨xa, hxa⟩ : ∃ x, x = s1 + a := ⟨_, rfl⟩
        obtain ⟨xb, hxb⟩ : ∃ x, x = s2 + b := ⟨_, rfl⟩
        obtain ⟨xc, hxc⟩ : ∃ x, x = s3 + c := ⟨_, rfl⟩
        rw [← hxa, ← hxb, ← hxc] at CA
        clear hxa hxb hxc
        go_enter Tryd.func22, Tryd.ntmps22
        go_wp2_with fail
        refine CC.mono ?_
        rintro e w1 ⟨g, c1, rs, rfl, ho, hb⟩
        have HB1 : Hid (Below w.heap.size w w1) := below_more HB0.out hb
        have HO1 : Hid (OwnT g c1 ts rs w.heap.size w1.heap.size w1) := ho.lower HB0.out.size
        have HX1 : Hid (Box3 w1 w.heap.size 37 a b c) := box_on HX0.out hb
        clear CC hb ho HX0 HB0
        go_wp2_with fail
        refine (HCO.out w1 HB1.out).mono ?_
        rintro e w2 ⟨rfl, hb⟩
        have HB2 : Hid (Below w.heap.size w w2) := below_more HB1.out hb
        have HO2 := hid_of (HO1.out.on hb).more
        have HX2 : Hid (Box3 w2 w.heap.size 37 a b c) := box_on HX1.out hb
        clear HCO hb HO1 HX1 HB1
        go_wp2_with fail
        refine wp_region_whole (by kernel_rfl) (by kernel_rfl) (by kernel_rfl) (by kernel_rfl) (AnsR w2 7 8 [.slice (some p) ts.length cap, amt s1 s2 s3, amt a b c, .tuple #[amt xa xb xc, .bool true], .tuple #[amt xa xb xc, .bool true], amt xa xb xc, .bool true, undef, undef, .bool true] xa xb xc) (ansR_start w2 7 8 _ _ _ _) ?_ ?_
        · refine ⟨?_, ?_, ?_, ?_, ?_, ?_, ?_, ?_, ?_, ?_, trivial⟩
          · intro b0 us wz L hslot hoth hLi hR hcl hdo K hK
            have s0 : b0.tmps.getD 0 undef = .slice (some p) ts.length cap := hoth 0 (by rfl)
            clear hslot hoth hdo hcl hLi
            refine guard_none (by rfl) ?_
            go_simp
            exact hK _ _ (hR.mark (by decide) (by decide) (Below.refl _ _) rfl)
          · intro b0 us wz L hslot hoth hLi hR hcl hdo K hK
            have s18 : b0.tmps.getD 18 undef = .slice (some p) ts.length cap := (hslot 0 18 (by rfl)).trans (hR.vals 0 (done_at hdo 0 (by rfl)) (by decide))
            clear hslot hoth hdo hcl hLi
            refine guard_none (by rfl) ?_
            go_simp
            refine (HSM.out wz (below_more HB2.out hR.below)).mono ?_
            rintro e w' ⟨rfl, hb⟩
            exact hK _ _ (hR.mark (by decide) (by decide) hb rfl)
          · intro b0 us wz L hslot hoth hLi hR hcl hdo K hK
            have s5 : b0.tmps.getD 5 undef = .pointer (some ⟨w.heap.size, 0, none⟩) := hoth 5 (by rfl)
            have bb := box_on HX2.out hR.below
            have k0 := bb.c0
            have k1 := bb.c1
            have k2 := bb.c2
            clear bb
            clear hslot hoth hdo hcl hLi
            refine guard_none (by rfl) ?_
            go_simp
            exact hK _ _ (hR.mark (by decide) (by decide) (Below.refl _ _) rfl)
          · intro b0 us wz L hslot hoth hLi hR hcl hdo K hK
            have s19 : b0.tmps.getD 19 undef = amt s1 s2 s3 := (hslot 1 19 (by rfl)).trans (hR.vals 1 (done_at hdo 1 (by rfl)) (by decide))
            have s20 : b0.tmps.getD 20 undef = amt a b c := (hslot 2 20 (by rfl)).trans (hR.vals 2 (done_at hdo 2 (by rfl)) (by decide))
            clear hslot hoth hdo hcl hLi
            refine guard_none (by rfl) ?_
            go_simp
            refine (CA wz).mono ?_
            rintro e w' ⟨rfl, hb⟩
            exact hK _ _ (hR.mark (by decide) (by decide) hb rfl)
          · intro b0 us wz L hslot hoth hLi hR hcl hdo K hK
            have s21 : b0.tmps.getD 21 undef = .tuple #[amt xa xb xc, .bool true] := (hslot 3 21 (by rfl)).trans (hR.vals 3 (done_at hdo 3 (by rfl)) (by decide))
            clear hslot hoth hdo hcl hLi
            refine guard_none (by rfl) ?_
            go_simp
            exact hK _ _ (hR.mark (by decide) (by decide) (Below.refl _ _) rfl)
          · intro b0 us wz L hslot hoth hLi hR hcl hdo K hK
            have s17 : b0.tmps.getD 17 undef = .tuple #[amt xa xb xc, .bool true] := (hslot 4 17 (by rfl)).trans (hR.vals 4 (done_at hdo 4 (by rfl)) (by decide))
            clear hslot hoth hdo hcl hLi
            refine guard_none (by rfl) ?_
            go_simp
            exact hK _ _ (hR.mark (by decide) (by decide) (Below.refl _ _) rfl)
          · intro b0 us wz L hslot hoth hLi hR hcl hdo K hK
            have s17 : b0.tmps.getD 17 undef = .tuple #[amt xa xb xc, .bool true] := (hslot 4 17 (by rfl)).trans (hR.vals 4 (done_at hdo 4 (by rfl)) (by decide))
            clear hslot hoth hdo hcl hLi
            refine guard_none (by rfl) ?_
            go_simp
            exact hK _ _ (hR.mark (by decide) (by decide) (Below.refl _ _) rfl)
          · intro b0 us wz L hslot hoth hLi hR hcl hdo K hK
            have hs : L 8 = false := by
              cases h : L 8 with
              | false => rfl
              | true => rw [done_at (hcl 8 _ rfl h) 7 (by rfl)] at hLi; cases hLi
            clear hslot hoth hdo hcl hLi
            refine guard_none (by rfl) ?_
            go_simp
            exact hK _ _ (hR.new (by decide) hs)
          · intro b0 us wz L hslot hoth hLi hR hcl hdo K hK
            have da := done_at hdo 7 (by rfl)
            obtain ⟨gb, p_, q_, r_, hu, hge, hbx, _⟩ := hR.box da
            have s9 : b0.tmps.getD 9 undef = .pointer (some ⟨gb, 0, none⟩) := (hslot 7 9 (by rfl)).trans hu
            have s22 : b0.tmps.getD 22 undef = amt xa xb xc := (hslot 5 22 (by rfl)).trans (hR.vals 5 (done_at hdo 5 (by rfl)) (by decide))
            have k0 := hbx.c0
            have k1 := hbx.c1
            have k2 := hbx.c2
            have f0 := hbx.f0 0
            have f1 := hbx.f0 1
            have f2 := hbx.f0 2
            clear hslot hoth hdo hcl hLi
            refine guard_none (by rfl) ?_
            go_simp
            exact hK undef _ (hR.put (by decide) rfl da hu)
          · intro b0 us wz L hslot hoth hLi hR hcl hdo K hK
            have s23 : b0.tmps.getD 23 undef = .bool true := (hslot 6 23 (by rfl)).trans (hR.vals 6 (done_at hdo 6 (by rfl)) (by decide))
            clear hslot hoth hdo hcl hLi
            refine guard_none (by rfl) ?_
            go_simp
            exact hK _ _ (hR.mark (by decide) (by decide) (Below.refl _ _) rfl)
        · intro us wn L hall hR a' ha'
          have g0 : us 0 = .slice (some p) ts.length cap := hR.vals 0 (hall 0 (by decide)) (by decide)
          have g1 : us 1 = amt s1 s2 s3 := hR.vals 1 (hall 1 (by decide)) (by decide)
          have g2 : us 2 = amt a b c := hR.vals 2 (hall 2 (by decide)) (by decide)
          have g3 : us 3 = .tuple #[amt xa xb xc, .bool true] := hR.vals 3 (hall 3 (by decide)) (by decide)
          have g4 : us 4 = .tuple #[amt xa xb xc, .bool true] := hR.vals 4 (hall 4 (by decide)) (by decide)
          have g5 : us 5 = amt xa xb xc := hR.vals 5 (hall 5 (by decide)) (by decide)
          have g6 : us 6 = .bool true := hR.vals 6 (hall 6 (by decide)) (by decide)
          have g9 : us 9 = .bool true := hR.vals 9 (hall 9 (by decide)) (by decide)
          obtain ⟨gb, p_, q_, r_, g7, hge, hbx, hfill⟩ := hR.box (hall 7 (by decide))
          obtain ⟨h1_, h2_, h3_⟩ := hfill (hall 8 (by decide))
          rw [h1_, h2_, h3_] at hbx
          clear h1_ h2_ h3_ hfill
          have HBN : Hid (Below w2.heap.size w2 wn) := hR.below
          clear hbx hge
          clear hR hall
          simp only [putAll, g0, g1, g2, g3, g4, g5, g6, g7, g9] at ha'
          subst ha'
          go_frame
          have HB3 : Hid (Below w.heap.size w wn) := below_more HB2.out HBN.out
          have HO3 := hid_of (HO2.out.on HBN.out).more
          have HX3 : Hid (Box3 wn w.heap.size 37 a b c) := box_on HX2.out HBN.out
          clear HBN HO2 HB2 HX2 HSM CA
          have CB : Hid (∀ w', TreeIn w' g ts rs → Calls Tryd.prog 57 #[.slice (some ⟨g, 0, none⟩) ts.length c1, .int .i64 (0 : Int), amt a b c] w' fun e w'' => e = .returned (.tuple #[]) ∧ TreeIn w'' g (ts.set 0 (addR (reAt ts 0) a b c)) rs ∧ w'.grownBy w'' (some g)) := fun w' h => implBring_any g ts.length c1 ts rs 0 a b c w' h rfl HO3.out.cap HM.out HL.out HAD.out
          go_wp2_with fail
          refine (HCL.out wn HB3.out).mono ?_
          rintro e w4 ⟨rfl, hw4⟩
          subst hw4
          have k0 := HX3.out.c0
          have k1 := HX3.out.c1
          have k2 := HX3.out.c2
          clear HCL
          go_wp2_with fail
          refine (CB.out _ HO3.out.at').mono ?_
          rintro e w5 ⟨rfl, ht5, hg5⟩
          have HE : Hid (OwnT g c1 (ts.set 0 (addR (reAt ts 0) a b c)) rs w.heap.size w5.heap.size w5) := ⟨ht5, by simpa using HO3.out.cap, HO3.out.lo, lt_of_block ht5⟩
          have HB5 : Hid (Below w.heap.size w w5) := HB3.out.grown hg5 HB3.out.size fun k e => by cases e; exact HO3.out.lo
          clear ht5 hg5 HO3 HX3 HB3 CB k0 k1 k2
          go_wp2
          go_returns
          exact ⟨g, c1, rs, rfl, HE.out, HB5.out⟩
end Go.Proofs.YtfcenombphodbaaDoor
