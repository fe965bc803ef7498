/-
  The model's TreeDrop.
-/
import Derived.Test.YtfcenombphodbaaDoorMathDrop
namespace Go.Proofs.YtfcenombphodbaaDoor
open Go.RowKit
set_option linter.unusedVariables false
set_option maxRecDepth 100000

set_option maxRecDepth 100000 in
set_option maxHeartbeats 8000000 in
theorem specDrop_any (p : Addr) (cap : Nat) (ts : List Re) (i0 : Int) (w : World) (hx : IsTree w (.slice (some p) ts.length cap) ts) (hn : ts.length ≤ 1048576) :
    Calls Tryd.prog 69 #[.slice (some p) ts.length cap, .int .i64 i0] w fun e w' => TreeAns ts.length (dropOf ts i0) (dropOk ts i0) w e w' := by
  have CC := specCopy_any p ts.length cap ts w hx rfl hn
  have HCL : Hid (∀ w', Below w.heap.size w w' → Calls Tryd.prog 27 #[.slice (some p) ts.length cap, .int .i64 i0] w' fun e w'' => e = .returned (.bool (liveIn ts i0)) ∧ Below w'.heap.size w' w'') := fun w' hb => specLive_any _ ts i0 w' (hx.on hb) hn
  have HXX : Hid (IsTree w (.slice (some p) ts.length cap) ts) := hx
  have hcap : ts.length ≤ cap := by
    obtain ⟨a', cap', hv, hc, _⟩ := hx
    cases hv
    exact hc
  clear hx
  cases hlive : liveIn ts i0 with
  | false =>
    have e1 : dropOk ts i0 = false := by simp [dropOk, hlive]
    have e2 : dropOf ts i0 = ts := by simp [dropOf, e1]
    rw [e1, e2]
    rw [hlive] at HCL
    clear e1 e2 hlive HXX hcap
    go_enter Tryd.func69, Tryd.ntmps69
    go_wp2_with fail
    refine CC.mono ?_
    rintro e w1 ⟨g, c1', rs, rfl, ho, hb⟩
    have HB1 := hid_of hb
    have HO1 := hid_of ho
    clear CC hb ho
    go_wp2_with fail
    refine (HCL.out w1 HB1.out).mono ?_
    rintro e w2 ⟨rfl, hb⟩
    have HB2 := hid_of (below_more HB1.out hb)
    have HO2 := hid_of (HO1.out.on hb).more
    clear HCL hb HO1 HB1
    go_wp2
    go_returns
    exact ⟨g, c1', rs, rfl, HO2.out, HB2.out⟩
  | true =>
    rw [hlive] at HCL
    by_cases h0 : i0 = 0
    · have e1 : dropOk ts i0 = false := by simp [dropOk, h0]
      have e2 : dropOf ts i0 = ts := by simp [dropOf, e1]
      rw [e1, e2]
      subst h0
      clear e1 e2 hlive HXX hcap
      go_enter Tryd.func69, Tryd.ntmps69
      go_wp2_with fail
      refine CC.mono ?_
      rintro e w1 ⟨g, c1', rs, rfl, ho, hb⟩
      have HB1 := hid_of hb
      have HO1 := hid_of ho
      clear CC hb ho
      go_wp2_with fail
      refine (HCL.out w1 HB1.out).mono ?_
      rintro e w2 ⟨rfl, hb⟩
      have HB2 := hid_of (below_more HB1.out hb)
      have HO2 := hid_of (HO1.out.on hb).more
      clear HCL hb HO1 HB1
      go_wp2
      go_returns
      exact ⟨g, c1', rs, rfl, HO2.out, HB2.out⟩
    · have hdo : dropOk ts i0 = true := by simp [dropOk, hlive, h0]
      have hok : treeOk ts = true := by simp [liveIn] at hlive; exact hlive.1.1
      obtain ⟨m, P, rfl, hD⟩ := dropAt_of hdo
      have e2 : dropOf ts (m : Int) = dropT ts m := by simp [dropOf, hdo]
      rw [hdo, e2]
      have HL5 : Hid (ts.length = 5) := treeOk_five hok
      have HD : Hid (DropAt ts m P) := hD
      obtain ⟨bs, hbs⟩ : ∃ bs, bs = dropB ts m P := ⟨_, rfl⟩
      have HDT : Hid (dropT ts m = bs.map (fS m P)) := by show _ = _; rw [hbs]; exact dropT_spec hok hD
      have HDL : Hid ((dropT ts m).length = ts.length) := by show _ = _; rw [dropT_of hD]; simp [dropB]
      have HBL : Hid (bs.length = ts.length) := by show _ = _; rw [hbs]; exact dropB_length _ _ _
      have CA := fun w => specAdd_yes (reAt ts P).a (reAt ts P).b (reAt ts P).c (reAt ts m).a (reAt ts m).b (reAt ts m).c w hD.add
      obtain ⟨p', qm, hpp, hqm, hcm⟩ := HXX.out.at (i := m) (by have := HL5.out; have := hD.hm; omega)
      cases hpp
      obtain ⟨p', qP, hpp, hqP, hcP⟩ := HXX.out.at (i := P) (by have := HL5.out; have := hD.hP; omega)
      cases hpp
      have HQM : Hid (∀ w', Below w.heap.size w w' → Cells5 w' qm (reAt ts m)) := fun w' hb => hcm.on hb
      have HQP : Hid (∀ w', Below w.heap.size w w' → Cells5 w' qP (reAt ts P)) := fun w' hb => hcP.on hb
      have hBS0 : ∀ xa xb xc, xa = (reAt ts P).a + (reAt ts m).a → xb = (reAt ts P).b + (reAt ts m).b → xc = (reAt ts P).c + (reAt ts m).c → (ts.set P ⟨(reAt ts P).live, (reAt ts P).par, xa, xb, xc⟩).set m ⟨false, 0, 0, 0, 0⟩ = bs := fun xa xb xc h1 h2 h3 => by
        rw [hbs, dropB_spec hD.ne, h1, h2, h3]; rfl
      have hpar := hD.par
      obtain ⟨xa, hxa⟩ : ∃ x, x = (reAt ts P).a + (reAt ts m).a := ⟨_, rfl⟩
      obtain ⟨xb, hxb⟩ : ∃ x, x = (reAt ts P).b + (reAt ts m).b := ⟨_, rfl⟩
      obtain ⟨xc, hxc⟩ : ∃ x, x = (reAt ts P).c + (reAt ts m).c := ⟨_, rfl⟩
      have HBS0 := hid_of (hBS0 xa xb xc hxa hxb hxc)
      rw [← hxa, ← hxb, ← hxc] at CA
      have HPAR : Hid ((reAt ts m).par = (P : Int)) := hpar
      generalize hrm : reAt ts m = rm at HQM CA HPAR
      generalize hrP : reAt ts P = rP at HQP CA
      obtain ⟨lm, pm, ra, rb, rc⟩ := rm
      obtain ⟨lP, pP, pa, pb, pc⟩ := rP
      simp only at CA HPAR
      obtain rfl : pm = (P : Int) := HPAR.out
      have hm0 : ¬ ((m : Int) = 0) := by have := hD.m0; omega
      have hmI : (m : Int) < (ts.length : Int) := by have := HL5.out; have := hD.hm; omega
      have hPI : (P : Int) < (ts.length : Int) := by have := HL5.out; have := hD.hP; omega
      clear hrm hrP HPAR hpar hxa hxb hxc hBS0 hcm hcP hbs hD hdo hok hlive e2 h0 HXX
      go_enter Tryd.func69, Tryd.ntmps69
      go_wp2_with fail
      refine CC.mono ?_
      rintro e w1 ⟨g, c1', rs, rfl, ho, hb⟩
      have HB1 := hid_of hb
      have HO1 := hid_of ho
      clear CC hb ho
      go_wp2_with fail
      refine (HCL.out w1 HB1.out).mono ?_
      rintro e w2 ⟨rfl, hb⟩
      have HB2 := hid_of (below_more HB1.out hb)
      have HO2 := hid_of (HO1.out.on hb).more
      have k1 := (HQM.out w2 HB2.out).c1
      simp only at k1
      clear HCL hb HO1 HB1
      go_wp2_with fail
      clear k1
      refine wp_region_whole (by kernel_rfl) (by kernel_rfl) (by kernel_rfl) (by kernel_rfl) (AnsR w2 14 15 [.slice (some p) ts.length cap, .int .i64 (P : Int), .pointer (some qP), .pointer (some ⟨qP.block, qP.off + 2, none⟩), amt pa pb pc, .slice (some p) ts.length cap, .int .i64 (m : Int), .pointer (some qm), .pointer (some ⟨qm.block, qm.off + 2, none⟩), amt ra rb rc, .tuple #[amt xa xb xc, .bool true], .tuple #[amt xa xb xc, .bool true], amt xa xb xc, .bool true, undef, undef, .bool true] xa xb xc) (ansR_start w2 14 15 _ _ _ _) ?_ ?_
      · refine ⟨?_, ?_, ?_, ?_, ?_, ?_, ?_, ?_, ?_, ?_, ?_, ?_, ?_, ?_, ?_, ?_, ?_, trivial⟩
        · intro b0 us wz L hslot hoth hLi hR hcl hdo K hK
          have s0 : b0.tmps.getD 0 undef = .slice (some p) ts.length cap := hoth 0 (by rfl)
          clear hslot hoth hdo hcl hLi
          refine guard_none (by rfl) ?_
          go_simp
          exact hK _ _ (hR.mark (by decide) (by decide) (Below.refl _ _) rfl)
        · intro b0 us wz L hslot hoth hLi hR hcl hdo K hK
          have s7 : b0.tmps.getD 7 undef = .int .i64 (P : Int) := hoth 7 (by rfl)
          clear hslot hoth hdo hcl hLi
          refine guard_none (by rfl) ?_
          go_simp
          exact hK _ _ (hR.mark (by decide) (by decide) (Below.refl _ _) rfl)
        · intro b0 us wz L hslot hoth hLi hR hcl hdo K hK
          have s28 : b0.tmps.getD 28 undef = .slice (some p) ts.length cap := (hslot 0 28 (by rfl)).trans (hR.vals 0 (done_at hdo 0 (by rfl)) (by decide))
          have s29 : b0.tmps.getD 29 undef = .int .i64 (P : Int) := (hslot 1 29 (by rfl)).trans (hR.vals 1 (done_at hdo 1 (by rfl)) (by decide))
          clear hslot hoth hdo hcl hLi
          refine guard_none (by rfl) ?_
          go_simp
          exact hK _ _ (hR.mark (by decide) (by decide) (Below.refl _ _) rfl)
        · intro b0 us wz L hslot hoth hLi hR hcl hdo K hK
          have s30 : b0.tmps.getD 30 undef = .pointer (some qP) := (hslot 2 30 (by rfl)).trans (hR.vals 2 (done_at hdo 2 (by rfl)) (by decide))
          clear hslot hoth hdo hcl hLi
          refine guard_none (by rfl) ?_
          go_simp
          exact hK _ _ (hR.mark (by decide) (by decide) (Below.refl _ _) rfl)
        · intro b0 us wz L hslot hoth hLi hR hcl hdo K hK
          have s31 : b0.tmps.getD 31 undef = .pointer (some ⟨qP.block, qP.off + 2, none⟩) := (hslot 3 31 (by rfl)).trans (hR.vals 3 (done_at hdo 3 (by rfl)) (by decide))
          have cc := HQP.out wz (below_more HB2.out hR.below)
          have k2 := cc.c2
          have k3 := cc.c3
          have k4 := cc.c4
          simp only at k2 k3 k4
          clear cc
          clear hslot hoth hdo hcl hLi
          refine guard_none (by rfl) ?_
          go_simp
          exact hK _ _ (hR.mark (by decide) (by decide) (Below.refl _ _) rfl)
        · intro b0 us wz L hslot hoth hLi hR hcl hdo K hK
          have s0 : b0.tmps.getD 0 undef = .slice (some p) ts.length cap := hoth 0 (by rfl)
          clear hslot hoth hdo hcl hLi
          refine guard_none (by rfl) ?_
          go_simp
          exact hK _ _ (hR.mark (by decide) (by decide) (Below.refl _ _) rfl)
        · intro b0 us wz L hslot hoth hLi hR hcl hdo K hK
          have s1 : b0.tmps.getD 1 undef = .int .i64 (m : Int) := hoth 1 (by rfl)
          clear hslot hoth hdo hcl hLi
          refine guard_none (by rfl) ?_
          go_simp
          exact hK _ _ (hR.mark (by decide) (by decide) (Below.refl _ _) rfl)
        · intro b0 us wz L hslot hoth hLi hR hcl hdo K hK
          have s33 : b0.tmps.getD 33 undef = .slice (some p) ts.length cap := (hslot 5 33 (by rfl)).trans (hR.vals 5 (done_at hdo 5 (by rfl)) (by decide))
          have s34 : b0.tmps.getD 34 undef = .int .i64 (m : Int) := (hslot 6 34 (by rfl)).trans (hR.vals 6 (done_at hdo 6 (by rfl)) (by decide))
          clear hslot hoth hdo hcl hLi
          refine guard_none (by rfl) ?_
          go_simp
          exact hK _ _ (hR.mark (by decide) (by decide) (Below.refl _ _) rfl)
        · intro b0 us wz L hslot hoth hLi hR hcl hdo K hK
          have s35 : b0.tmps.getD 35 undef = .pointer (some qm) := (hslot 7 35 (by rfl)).trans (hR.vals 7 (done_at hdo 7 (by rfl)) (by decide))
          clear hslot hoth hdo hcl hLi
          refine guard_none (by rfl) ?_
          go_simp
          exact hK _ _ (hR.mark (by decide) (by decide) (Below.refl _ _) rfl)
        · intro b0 us wz L hslot hoth hLi hR hcl hdo K hK
          have s36 : b0.tmps.getD 36 undef = .pointer (some ⟨qm.block, qm.off + 2, none⟩) := (hslot 8 36 (by rfl)).trans (hR.vals 8 (done_at hdo 8 (by rfl)) (by decide))
          have cc := HQM.out wz (below_more HB2.out hR.below)
          have k2 := cc.c2
          have k3 := cc.c3
          have k4 := cc.c4
          simp only at k2 k3 k4
          clear cc
          clear hslot hoth hdo hcl hLi
          refine guard_none (by rfl) ?_
          go_simp
          exact hK _ _ (hR.mark (by decide) (by decide) (Below.refl _ _) rfl)
        · intro b0 us wz L hslot hoth hLi hR hcl hdo K hK
          have s32 : b0.tmps.getD 32 undef = amt pa pb pc := (hslot 4 32 (by rfl)).trans (hR.vals 4 (done_at hdo 4 (by rfl)) (by decide))
          have s37 : b0.tmps.getD 37 undef = amt ra rb rc := (hslot 9 37 (by rfl)).trans (hR.vals 9 (done_at hdo 9 (by rfl)) (by decide))
          clear hslot hoth hdo hcl hLi
          refine guard_none (by rfl) ?_
          go_simp
          refine (CA wz).mono ?_
          rintro e w' ⟨rfl, hb⟩
          exact hK _ _ (hR.mark (by decide) (by decide) hb rfl)
        · intro b0 us wz L hslot hoth hLi hR hcl hdo K hK
          have s38 : b0.tmps.getD 38 undef = .tuple #[amt xa xb xc, .bool true] := (hslot 10 38 (by rfl)).trans (hR.vals 10 (done_at hdo 10 (by rfl)) (by decide))
          clear hslot hoth hdo hcl hLi
          refine guard_none (by rfl) ?_
          go_simp
          exact hK _ _ (hR.mark (by decide) (by decide) (Below.refl _ _) rfl)
        · intro b0 us wz L hslot hoth hLi hR hcl hdo K hK
          have s27 : b0.tmps.getD 27 undef = .tuple #[amt xa xb xc, .bool true] := (hslot 11 27 (by rfl)).trans (hR.vals 11 (done_at hdo 11 (by rfl)) (by decide))
          clear hslot hoth hdo hcl hLi
          refine guard_none (by rfl) ?_
          go_simp
          exact hK _ _ (hR.mark (by decide) (by decide) (Below.refl _ _) rfl)
        · intro b0 us wz L hslot hoth hLi hR hcl hdo K hK
          have s27 : b0.tmps.getD 27 undef = .tuple #[amt xa xb xc, .bool true] := (hslot 11 27 (by rfl)).trans (hR.vals 11 (done_at hdo 11 (by rfl)) (by decide))
          clear hslot hoth hdo hcl hLi
          refine guard_none (by rfl) ?_
          go_simp
          exact hK _ _ (hR.mark (by decide) (by decide) (Below.refl _ _) rfl)
        · intro b0 us wz L hslot hoth hLi hR hcl hdo K hK
          have hs : L 15 = false := by
            cases h : L 15 with
            | false => rfl
            | true => rw [done_at (hcl 15 _ rfl h) 14 (by rfl)] at hLi; cases hLi
          clear hslot hoth hdo hcl hLi
          refine guard_none (by rfl) ?_
          go_simp
          exact hK _ _ (hR.new (by decide) hs)
        · intro b0 us wz L hslot hoth hLi hR hcl hdo K hK
          have da := done_at hdo 14 (by rfl)
          obtain ⟨gb, p_, q_, r_, hu, hge, hbx, _⟩ := hR.box da
          have s8 : b0.tmps.getD 8 undef = .pointer (some ⟨gb, 0, none⟩) := (hslot 14 8 (by rfl)).trans hu
          have s39 : b0.tmps.getD 39 undef = amt xa xb xc := (hslot 12 39 (by rfl)).trans (hR.vals 12 (done_at hdo 12 (by rfl)) (by decide))
          have k0 := hbx.c0
          have k1 := hbx.c1
          have k2 := hbx.c2
          have f0 := hbx.f0 0
          have f1 := hbx.f0 1
          have f2 := hbx.f0 2
          clear hslot hoth hdo hcl hLi
          refine guard_none (by rfl) ?_
          go_simp
          exact hK undef _ (hR.put (by decide) rfl da hu)
        · intro b0 us wz L hslot hoth hLi hR hcl hdo K hK
          have s40 : b0.tmps.getD 40 undef = .bool true := (hslot 13 40 (by rfl)).trans (hR.vals 13 (done_at hdo 13 (by rfl)) (by decide))
          clear hslot hoth hdo hcl hLi
          refine guard_none (by rfl) ?_
          go_simp
          exact hK _ _ (hR.mark (by decide) (by decide) (Below.refl _ _) rfl)
      · intro us wn L hall hR a' ha'
        have g0 : us 0 = .slice (some p) ts.length cap := hR.vals 0 (hall 0 (by decide)) (by decide)
        have g1 : us 1 = .int .i64 (P : Int) := hR.vals 1 (hall 1 (by decide)) (by decide)
        have g2 : us 2 = .pointer (some qP) := hR.vals 2 (hall 2 (by decide)) (by decide)
        have g3 : us 3 = .pointer (some ⟨qP.block, qP.off + 2, none⟩) := hR.vals 3 (hall 3 (by decide)) (by decide)
        have g4 : us 4 = amt pa pb pc := hR.vals 4 (hall 4 (by decide)) (by decide)
        have g5 : us 5 = .slice (some p) ts.length cap := hR.vals 5 (hall 5 (by decide)) (by decide)
        have g6 : us 6 = .int .i64 (m : Int) := hR.vals 6 (hall 6 (by decide)) (by decide)
        have g7 : us 7 = .pointer (some qm) := hR.vals 7 (hall 7 (by decide)) (by decide)
        have g8 : us 8 = .pointer (some ⟨qm.block, qm.off + 2, none⟩) := hR.vals 8 (hall 8 (by decide)) (by decide)
        have g9 : us 9 = amt ra rb rc := hR.vals 9 (hall 9 (by decide)) (by decide)
        have g10 : us 10 = .tuple #[amt xa xb xc, .bool true] := hR.vals 10 (hall 10 (by decide)) (by decide)
        have g11 : us 11 = .tuple #[amt xa xb xc, .bool true] := hR.vals 11 (hall 11 (by decide)) (by decide)
        have g12 : us 12 = amt xa xb xc := hR.vals 12 (hall 12 (by decide)) (by decide)
        have g13 : us 13 = .bool true := hR.vals 13 (hall 13 (by decide)) (by decide)
        have g16 : us 16 = .bool true := hR.vals 16 (hall 16 (by decide)) (by decide)
        obtain ⟨gb, p_, q_, r_, g14, hge, hbx, hfill⟩ := hR.box (hall 14 (by decide))
        obtain ⟨h1_, h2_, h3_⟩ := hfill (hall 15 (by decide))
        rw [h1_, h2_, h3_] at hbx
        clear h1_ h2_ h3_ hfill
        have HBN : Hid (Below w2.heap.size w2 wn) := hR.below
        have HBX : Hid (Box3 wn gb 37 xa xb xc) := hbx
        clear hge
        clear hR hall
        simp only [putAll, g0, g1, g2, g3, g4, g5, g6, g7, g8, g9, g10, g11, g12, g13, g14, g16] at ha'
        subst ha'
        go_frame
        have HB3 : Hid (Below w.heap.size w wn) := below_more HB2.out HBN.out
        have ho3 := (HO2.out.on HBN.out).more
        clear HBN HO2 HB2 HQP HQM CA hqP hqm
        have HGL : Hid (w.heap.size ≤ g) := ho3.lo
        have HCAP : Hid (ts.length ≤ c1') := ho3.cap
        have hPl : P < ts.length := by have := HL5.out; have := HD.out.hP; omega
        have hml : m < ts.length := by have := HL5.out; have := HD.out.hm; omega
        have hPi : (P : Int) < (ts.length : Int) := by omega
        have hmi : (m : Int) < (ts.length : Int) := by omega
        have hlc : (ts.length : Int) ≤ (c1' : Int) := by have := HCAP.out; omega
        have d := ho3.at'.cell P hPl
        have d2 := d.c2
        have d3 := d.c3
        have d4 := d.c4
        have f2 := ho3.at'.free (P * 5 + 2)
        have f3 := ho3.at'.free (P * 5 + 3)
        have f4 := ho3.at'.free (P * 5 + 4)
        have t3 := ho3.at'.set3 P hPl xa xb xc
        have hb4 := below_set3 (i := P * 5 + 2) (j := P * 5 + 3) (k := P * 5 + 4) HB3.out HGL.out (.int .i64 xa) (.int .i64 xb) (.int .i64 xc)
        have k0 := HBX.out.c0
        have k1 := HBX.out.c1
        have k2 := HBX.out.c2
        generalize (reAt ts P).a = o2 at d2
        generalize (reAt ts P).b = o3 at d3
        generalize (reAt ts P).c = o4 at d4
        obtain ⟨w4, hw4⟩ : ∃ x, x = ((wn.setCell ⟨g, P * 5 + 2, none⟩ (.int .i64 xa)).setCell ⟨g, P * 5 + 3, none⟩ (.int .i64 xb)).setCell ⟨g, P * 5 + 4, none⟩ (.int .i64 xc) := ⟨_, rfl⟩
        have sp := t3.cell m (by simpa using hml)
        have e0 := sp.c0
        have e1 := sp.c1
        have e2 := sp.c2
        have e3 := sp.c3
        have e4 := sp.c4
        have j0 := t3.free (m * 5)
        have j1 := t3.free (m * 5 + 1)
        have j2 := t3.free (m * 5 + 2)
        have j3 := t3.free (m * 5 + 3)
        have j4 := t3.free (m * 5 + 4)
        have t5 := t3.set5 m (by simpa using hml) false 0 0 0 0
        have hb5 := below_w5 (i := m * 5) hb4 HGL.out false 0 0 0 0
        rw [HBS0.out] at t5
        have HT5 := hid_of t5
        have HB5 := hid_of hb5
        generalize reAt (ts.set P ⟨(reAt ts P).live, (reAt ts P).par, xa, xb, xc⟩) m = rr at e0 e1 e2 e3 e4
        obtain ⟨rl, rp, r2, r3, r4⟩ := rr
        simp only at e0 e1 e2 e3 e4
        clear d t3 t5 hb4 hb5 sp ho3 HBX hw4
        go_wp2
        clear d2 d3 d4 f2 f3 f4 k0 k1 k2 e0 e1 e2 e3 e4 j0 j1 j2 j3 j4
        go_loopw [10] (fun i wr => ∃ k : Nat, k ≤ ts.length ∧ i = .int .i64 k ∧ Hid (TreeIn wr g (mapK (fS m P) bs k) rs) ∧ Hid (Below w.heap.size w wr)) (fun i _ => ts.length - (intOf i).toNat)
        case atStart => exact ⟨0, Nat.zero_le _, rfl, by rw [mapK_start]; exact HT5, HB5⟩
        case round =>
          obtain ⟨k, hk, rfl, HT, HB⟩ := hrel
          clear HT5 HB5
          by_cases hlt : k < ts.length
          · have hkb : k < bs.length := by rw [HBL.out]; exact hlt
            have hkm : k < (mapK (fS m P) bs k).length := by rw [mapK_length]; exact hkb
            have d := HT.out.cell k hkm
            rw [mapK_at _ _ _ hkb] at d
            have c0 := d.c0
            have c1 := d.c1
            have f1 := HT.out.free (k * 5 + 1)
            have HPUT : Hid (∀ r, reAt bs k = r → fS m P r = { r with par := (P : Int) } → TreeIn (wr.setCell ⟨g, k * 5 + 1, none⟩ (.int .i64 (P : Int))) g (mapK (fS m P) bs (k + 1)) rs) := fun r hr h => by
              have := HT.out.put1 k hkm (P : Int)
              rw [mapK_at _ _ _ hkb, hr, ← h, ← hr, mapK_set _ _ _ hkb] at this
              exact this
            have HSAM : Hid (∀ r, reAt bs k = r → fS m P r = r → TreeIn wr g (mapK (fS m P) bs (k + 1)) rs) := fun r hr h => by
              rw [mapK_same _ _ _ hkb (by rw [hr]; exact h)]
              exact HT.out
            have HBS : Hid (Below w.heap.size w (wr.setCell ⟨g, k * 5 + 1, none⟩ (.int .i64 (P : Int)))) := HB.out.setCell (p := ⟨g, _, none⟩) HGL.out _
            have hlc : (ts.length : Int) ≤ (c1' : Int) := by have := HCAP.out; omega
            have hki : (k : Int) < (ts.length : Int) := by omega
            have hk6 : ts.length ≤ 1048576 := by have := HL5.out; omega
            obtain ⟨r, hr⟩ : ∃ r, reAt bs k = r := ⟨_, rfl⟩
            replace HPUT := hid_of (HPUT.out r hr)
            replace HSAM := hid_of (HSAM.out r hr)
            rw [hr] at c0 c1
            clear hr d hkb hkm
            obtain ⟨l, pr, ea, eb, ec⟩ := r
            simp only at c0 c1
            cases l with
            | false =>
              have HS := hid_of (HSAM.out (by simp [fS]))
              clear HPUT HSAM HBS
              go_wp2
              go_roundw
              case rel => exact ⟨k + 1, by omega, by go_num, HS, HB⟩
              case measure => simp [intOf]; omega
            | true =>
              by_cases hpm : pr = (m : Int)
              · subst hpm
                have HS := hid_of (HPUT.out (by simp [fS]))
                clear HPUT HSAM
                go_wp2
                go_roundw
                case rel => exact ⟨k + 1, by omega, by go_num, HS, HBS⟩
                case measure => simp [intOf]; omega
              · have hpd : decide (pr = (m : Int)) = false := by simpa using hpm
                have HS := hid_of (HSAM.out (by simp [fS, hpm]))
                clear HPUT HSAM HBS
                go_wp2
                go_roundw
                case rel => exact ⟨k + 1, by omega, by go_num, HS, HB⟩
                case measure => simp [intOf]; omega
          · obtain rfl : k = ts.length := by omega
            have HE : Hid (OwnT g c1' (dropT ts m) rs w.heap.size wr.heap.size wr) := by
              have h := HT.out
              rw [← HBL.out, mapK_end, ← HDT.out] at h
              exact ⟨h, by rw [HDL.out]; exact HCAP.out, HGL.out, lt_of_block h⟩
            clear HT HCAP HGL
            go_wp2
            go_returns
            exact ⟨g, c1', rs, rfl, HE.out, HB.out⟩
end Go.Proofs.YtfcenombphodbaaDoor
