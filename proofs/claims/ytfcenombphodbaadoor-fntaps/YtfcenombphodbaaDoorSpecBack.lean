/-
  The model's TreeBack.
-/
import Derived.Test.YtfcenombphodbaaDoorSpecPay
namespace Go.Proofs.YtfcenombphodbaaDoor
open Go.RowKit
set_option linter.unusedVariables false
set_option maxRecDepth 100000

theorem sumN_ge (f : Re → Int) (ts : List Re) (h : ∀ i, i < 5 → 0 ≤ f (reAt ts i) ∧ f (reAt ts i) ≤ 1000000) (m : Nat) (hl : (reAt ts m).live = true) : ∀ k, m < k → k ≤ 5 → f (reAt ts m) ≤ sumN f ts k := by
  intro k
  induction k with
  | zero => intro h1; omega
  | succ k ih =>
    intro h1 h2
    have hs := sumN_small f ts h k (by omega)
    have hk := h k (by omega)
    simp only [sumN]
    by_cases he : m = k
    · subst he; rw [hl]; simp; omega
    · have := ih (by omega) (by omega)
      split <;> omega
theorem treeOk_rlive {ts : List Re} (h : treeOk ts = true) : (reAt ts 0).live = true := by
  cases hl : (reAt ts 0).live with
  | true => rfl
  | false => rw [treeOk_root hl] at h; cases h
/-- Where it is brought to. -/
def backAt (ts : List Re) (i : Int) : Nat := if liveIn ts i then i.toNat else 0
def backOk (ts : List Re) (a b c : Int) : Bool := treeOk ts && addOk (sumN Re.a ts 5) (sumN Re.b ts 5) (sumN Re.c ts 5) a b c
def backT (ts : List Re) (i : Int) (a b c : Int) : List Re := ts.set (backAt ts i) ⟨(reAt ts (backAt ts i)).live, (reAt ts (backAt ts i)).par, (reAt ts (backAt ts i)).a + a, (reAt ts (backAt ts i)).b + b, (reAt ts (backAt ts i)).c + c⟩
def backOf (ts : List Re) (i : Int) (a b c : Int) : List Re := if backOk ts a b c then backT ts i a b c else ts
theorem addOk_one {ts : List Re} {a b c : Int} {m : Nat} (hok : treeOk ts = true) (hadd : addOk (sumN Re.a ts 5) (sumN Re.b ts 5) (sumN Re.c ts 5) a b c = true) (hm : m < 5) (hl : (reAt ts m).live = true) : addOk (reAt ts m).a (reAt ts m).b (reAt ts m).c a b c = true := by
  have am := treeOk_amts hok
  have g1 := sumN_ge Re.a ts (fun i hi => by have := amtOk_true (am i hi); omega) m hl 5 hm (Nat.le_refl _)
  have g2 := sumN_ge Re.b ts (fun i hi => by have := amtOk_true (am i hi); omega) m hl 5 hm (Nat.le_refl _)
  have g3 := sumN_ge Re.c ts (fun i hi => by have := amtOk_true (am i hi); omega) m hl 5 hm (Nat.le_refl _)
  have u := amtOk_true (am m hm)
  obtain ⟨⟨hx, hy⟩, hz⟩ : (amtOk (sumN Re.a ts 5) (sumN Re.b ts 5) (sumN Re.c ts 5) = true ∧ amtOk a b c = true) ∧ amtOk (sumN Re.a ts 5 + a) (sumN Re.b ts 5 + b) (sumN Re.c ts 5 + c) = true := by unfold addOk at hadd; simpa using hadd
  have v := amtOk_true hy
  have z := amtOk_true hz
  have h3 : amtOk ((reAt ts m).a + a) ((reAt ts m).b + b) ((reAt ts m).c + c) = true := by unfold amtOk; rw [numOk_yes (by omega) (by omega), numOk_yes (by omega) (by omega), numOk_yes (by omega) (by omega)]; rfl
  unfold addOk
  rw [am m hm, hy, h3]
  rfl

set_option maxRecDepth 100000 in
set_option maxHeartbeats 8000000 in
theorem specBack_any (p : Addr) (cap : Nat) (ts : List Re) (i0 a b c : Int) (w : World) (hx : IsTree w (.slice (some p) ts.length cap) ts) (hn : ts.length ≤ 1048576) :
    Calls Tryd.prog 31 #[.slice (some p) ts.length cap, .int .i64 i0, amt a b c] w fun e w' => TreeAns ts.length (backOf ts i0 a b c) (backOk ts a b c) w e w' := by
  have hb0 : Below w.heap.size w (w.alloc (boxA a b c)) := below_alloc w _
  have CC := specCopy_any p ts.length cap ts (w.alloc (boxA a b c)) (hx.on hb0) rfl hn
  have HCO : Hid (∀ w', Below w.heap.size w w' → Calls Tryd.prog 10 #[.slice (some p) ts.length cap] w' fun e w'' => e = .returned (.bool (treeOk ts)) ∧ Below w'.heap.size w' w'') := fun w' hb => specOk_any _ ts w' (hx.on hb) hn
  have HCL : Hid (∀ w', Below w.heap.size w w' → Calls Tryd.prog 27 #[.slice (some p) ts.length cap, .int .i64 i0] w' fun e w'' => e = .returned (.bool (liveIn ts i0)) ∧ Below w'.heap.size w' w'') := fun w' hb => specLive_any _ ts i0 w' (hx.on hb) hn
  have HX0 : Hid (Box3 (w.alloc (boxA a b c)) w.heap.size 37 a b c) := ⟨heap_alloc_new w _⟩
  have HB0 : Hid (Below w.heap.size w (w.alloc (boxA a b c))) := hb0
  have HXX : Hid (IsTree w (.slice (some p) ts.length cap) ts) := hx
  have hcap : ts.length ≤ cap := by
    obtain ⟨a', cap', hv, hc, _⟩ := hx
    cases hv
    exact hc
  clear hx hb0
  cases hok : treeOk ts with
  | false =>
    have e1 : backOk ts a b c = false := by simp [backOk, hok]
    have e2 : backOf ts i0 a b c = ts := by simp [backOf, e1]
    rw [e1, e2]
    rw [hok] at HCO
    clear hok e1 e2 HXX HCL
    go_enter Tryd.func31, Tryd.ntmps31
    go_wp2_with fail
    refine CC.mono ?_
    rintro e w1 ⟨g, c1, rs, rfl, ho, hb⟩
    have HB1 : Hid (Below w.heap.size w w1) := below_more HB0.out hb
    have HO1 := hid_of ho
    have HX1 : Hid (Box3 w1 w.heap.size 37 a b c) := box_on HX0.out hb
    clear CC hb ho HX0 HB0
    go_wp2_with fail
    refine (HCO.out w1 HB1.out).mono ?_
    rintro e w2 ⟨rfl, hb⟩
    have HB2 : Hid (Below w.heap.size w w2) := below_more HB1.out hb
    have HO2 := hid_of (HO1.out.on hb)
    have HX2 : Hid (Box3 w2 w.heap.size 37 a b c) := box_on HX1.out hb
    clear HCO hb HO1 HX1 HB1
    go_wp2
    go_returns
    exact ⟨g, c1, rs, rfl, (HO2.out.lower (by simp)).more, HB2.out⟩
  | true =>
    have hl := treeOk_five hok
    rw [hok] at HCO
    have HL : Hid (ts.length = 5) := hl
    have HSM : Hid (∀ w', Below w.heap.size w w' → Calls Tryd.prog 34 #[.slice (some p) ts.length cap] w' fun e w'' => e = .returned (amt (sumN Re.a ts 5) (sumN Re.b ts 5) (sumN Re.c ts 5)) ∧ Below w'.heap.size w' w'') := fun w' hb => specSum_any _ ts w' (HXX.out.on hb) hl (treeOk_amts hok)
    cases hadd : addOk (sumN Re.a ts 5) (sumN Re.b ts 5) (sumN Re.c ts 5) a b c with
    | false =>
      have e1 : backOk ts a b c = false := by simp [backOk, hok, hadd]
      have e2 : backOf ts i0 a b c = ts := by simp [backOf, e1]
      have CA := fun w => specAdd_no _ _ _ a b c w hadd
      rw [e1, e2]
      rw [hl] at CC HCO HSM hcap ⊢
      clear hok e1 e2 HXX HCL hadd hl
      generalize sumN Re.a ts 5 = s1 at HSM CA
      generalize sumN Re.b ts 5 = s2 at HSM CA
      generalize sumN Re.c ts 5 = s3 at HSM CA
      go_enter Tryd.func31, Tryd.ntmps31
      go_wp2_with fail
      refine CC.mono ?_
      rintro e w1 ⟨g, c1, rs, rfl, ho, hb⟩
      have HB1 : Hid (Below w.heap.size w w1) := below_more HB0.out hb
      have HO1 := hid_of ho
      have HX1 : Hid (Box3 w1 w.heap.size 37 a b c) := box_on HX0.out hb
      clear CC hb ho HX0 HB0
      go_wp2_with fail
      refine (HCO.out w1 HB1.out).mono ?_
      rintro e w2 ⟨rfl, hb⟩
      have HB2 : Hid (Below w.heap.size w w2) := below_more HB1.out hb
      have HO2 := hid_of (HO1.out.on hb)
      have HX2 : Hid (Box3 w2 w.heap.size 37 a b c) := box_on HX1.out hb
      clear HCO hb HO1 HX1 HB1
      go_wp2_with fail
      refine wp_region_whole (by kernel_rfl) (by kernel_rfl) (by kernel_rfl) (by kernel_rfl) (AnsR w2 7 8 [.slice (some p) 5 cap, amt s1 s2 s3, amt a b c, .tuple #[amt s1 s2 s3, .bool false], .tuple #[amt s1 s2 s3, .bool false], amt s1 s2 s3, .bool false, undef, undef, .bool false] s1 s2 s3) (ansR_start w2 7 8 _ _ _ _) ?_ ?_
      · refine ⟨?_, ?_, ?_, ?_, ?_, ?_, ?_, ?_, ?_, ?_, trivial⟩
        · intro b0 us wz L hslot hoth hLi hR hcl hdo K hK
          have s0 : b0.tmps.getD 0 undef = .slice (some p) 5 cap := hoth 0 (by rfl)
          clear hslot hoth hdo hcl hLi
          refine guard_none (by rfl) ?_
          go_simp
          exact hK _ _ (hR.mark (by decide) (by decide) (Below.refl _ _) rfl)
        · intro b0 us wz L hslot hoth hLi hR hcl hdo K hK
          have s20 : b0.tmps.getD 20 undef = .slice (some p) 5 cap := (hslot 0 20 (by rfl)).trans (hR.vals 0 (done_at hdo 0 (by rfl)) (by decide))
          clear hslot hoth hdo hcl hLi
          refine guard_none (by rfl) ?_
          go_simp
          refine (HSM.out wz (below_more HB2.out hR.below)).mono ?_
          rintro e w' ⟨rfl, hb⟩
          exact hK _ _ (hR.mark (by decide) (by decide) hb rfl)
        · intro b0 us wz L hslot hoth hLi hR hcl hdo K hK
          have s5 : b0.tmps.getD 5 undef = .pointer (some ⟨w.heap.size, 0, none⟩) := hoth 5 (by rfl)
          have bb := box_on HX2.out hR.below
          have k0 := bb.c0
          have k1 := bb.c1
          have k2 := bb.c2
          clear bb
          clear hslot hoth hdo hcl hLi
          refine guard_none (by rfl) ?_
          go_simp
          exact hK _ _ (hR.mark (by decide) (by decide) (Below.refl _ _) rfl)
        · intro b0 us wz L hslot hoth hLi hR hcl hdo K hK
          have s21 : b0.tmps.getD 21 undef = amt s1 s2 s3 := (hslot 1 21 (by rfl)).trans (hR.vals 1 (done_at hdo 1 (by rfl)) (by decide))
          have s22 : b0.tmps.getD 22 undef = amt a b c := (hslot 2 22 (by rfl)).trans (hR.vals 2 (done_at hdo 2 (by rfl)) (by decide))
          clear hslot hoth hdo hcl hLi
          refine guard_none (by rfl) ?_
          go_simp
          refine (CA wz).mono ?_
          rintro e w' ⟨rfl, hb⟩
          exact hK _ _ (hR.mark (by decide) (by decide) hb rfl)
        · intro b0 us wz L hslot hoth hLi hR hcl hdo K hK
          have s23 : b0.tmps.getD 23 undef = .tuple #[amt s1 s2 s3, .bool false] := (hslot 3 23 (by rfl)).trans (hR.vals 3 (done_at hdo 3 (by rfl)) (by decide))
          clear hslot hoth hdo hcl hLi
          refine guard_none (by rfl) ?_
          go_simp
          exact hK _ _ (hR.mark (by decide) (by decide) (Below.refl _ _) rfl)
        · intro b0 us wz L hslot hoth hLi hR hcl hdo K hK
          have s19 : b0.tmps.getD 19 undef = .tuple #[amt s1 s2 s3, .bool false] := (hslot 4 19 (by rfl)).trans (hR.vals 4 (done_at hdo 4 (by rfl)) (by decide))
          clear hslot hoth hdo hcl hLi
          refine guard_none (by rfl) ?_
          go_simp
          exact hK _ _ (hR.mark (by decide) (by decide) (Below.refl _ _) rfl)
        · intro b0 us wz L hslot hoth hLi hR hcl hdo K hK
          have s19 : b0.tmps.getD 19 undef = .tuple #[amt s1 s2 s3, .bool false] := (hslot 4 19 (by rfl)).trans (hR.vals 4 (done_at hdo 4 (by rfl)) (by decide))
          clear hslot hoth hdo hcl hLi
          refine guard_none (by rfl) ?_
          go_simp
          exact hK _ _ (hR.mark (by decide) (by decide) (Below.refl _ _) rfl)
        · intro b0 us wz L hslot hoth hLi hR hcl hdo K hK
          have hs : L 8 = false := by
            cases h : L 8 with
            | false => rfl
            | true => rw [done_at (hcl 8 _ rfl h) 7 (by rfl)] at hLi; cases hLi
          clear hslot hoth hdo hcl hLi
          refine guard_none (by rfl) ?_
          go_simp
          exact hK _ _ (hR.new (by decide) hs)
        · intro b0 us wz L hslot hoth hLi hR hcl hdo K hK
          have da := done_at hdo 7 (by rfl)
          obtain ⟨gb, p_, q_, r_, hu, hge, hbx, _⟩ := hR.box da
          have s9 : b0.tmps.getD 9 undef = .pointer (some ⟨gb, 0, none⟩) := (hslot 7 9 (by rfl)).trans hu
          have s24 : b0.tmps.getD 24 undef = amt s1 s2 s3 := (hslot 5 24 (by rfl)).trans (hR.vals 5 (done_at hdo 5 (by rfl)) (by decide))
          have k0 := hbx.c0
          have k1 := hbx.c1
          have k2 := hbx.c2
          have f0 := hbx.f0 0
          have f1 := hbx.f0 1
          have f2 := hbx.f0 2
          clear hslot hoth hdo hcl hLi
          refine guard_none (by rfl) ?_
          go_simp
          exact hK undef _ (hR.put (by decide) rfl da hu)
        · intro b0 us wz L hslot hoth hLi hR hcl hdo K hK
          have s25 : b0.tmps.getD 25 undef = .bool false := (hslot 6 25 (by rfl)).trans (hR.vals 6 (done_at hdo 6 (by rfl)) (by decide))
          clear hslot hoth hdo hcl hLi
          refine guard_none (by rfl) ?_
          go_simp
          exact hK _ _ (hR.mark (by decide) (by decide) (Below.refl _ _) rfl)
      · intro us wn L hall hR a' ha'
        have g0 : us 0 = .slice (some p) 5 cap := hR.vals 0 (hall 0 (by decide)) (by decide)
        have g1 : us 1 = amt s1 s2 s3 := hR.vals 1 (hall 1 (by decide)) (by decide)
        have g2 : us 2 = amt a b c := hR.vals 2 (hall 2 (by decide)) (by decide)
        have g3 : us 3 = .tuple #[amt s1 s2 s3, .bool false] := hR.vals 3 (hall 3 (by decide)) (by decide)
        have g4 : us 4 = .tuple #[amt s1 s2 s3, .bool false] := hR.vals 4 (hall 4 (by decide)) (by decide)
        have g5 : us 5 = amt s1 s2 s3 := hR.vals 5 (hall 5 (by decide)) (by decide)
        have g6 : us 6 = .bool false := hR.vals 6 (hall 6 (by decide)) (by decide)
        have g9 : us 9 = .bool false := hR.vals 9 (hall 9 (by decide)) (by decide)
        obtain ⟨gb, p_, q_, r_, g7, hge, hbx, hfill⟩ := hR.box (hall 7 (by decide))
        obtain ⟨h1_, h2_, h3_⟩ := hfill (hall 8 (by decide))
        rw [h1_, h2_, h3_] at hbx
        clear h1_ h2_ h3_ hfill
        have HBN : Hid (Below w2.heap.size w2 wn) := hR.below
        clear hbx hge
        clear hR hall
        simp only [putAll, g0, g1, g2, g3, g4, g5, g6, g7, g9] at ha'
        subst ha'
        go_frame
        have HB3 : Hid (Below w.heap.size w wn) := below_more HB2.out HBN.out
        have HO3 := hid_of (HO2.out.on HBN.out)
        clear HBN HO2 HB2 HX2 HSM CA
        go_wp2
        go_returns
        exact ⟨g, c1, rs, rfl, (HO3.out.lower (by simp)).more, HB3.out⟩
    | true =>
      have e1 : backOk ts a b c = true := by simp [backOk, hok, hadd]
      have e2 : backOf ts i0 a b c = backT ts i0 a b c := by simp [backOf, e1]
      have CA := fun w => specAdd_yes _ _ _ a b c w hadd
      rw [e1, e2]
      cases hlive : liveIn ts i0 with
      | true =>
        obtain ⟨m, rfl, hm⟩ : ∃ m : Nat, i0 = (m : Int) ∧ m < 5 := by
          unfold liveIn at hlive; simp at hlive
          exact ⟨i0.toNat, by omega, by omega⟩
        have hlvm : (reAt ts m).live = true := by unfold liveIn at hlive; simp at hlive; exact hlive.2
        have hat : backAt ts (m : Int) = m := by simp [backAt, hlive]
        have hmi : (m : Int) < 5 := by omega
        have hml0 : m < 5 := by omega
        have hlv : (reAt ts m).live = true := hlvm
        have hadd2 : addOk (reAt ts m).a (reAt ts m).b (reAt ts m).c a b c = true := addOk_one hok hadd hml0 hlv
        have CB := fun w => specAdd_yes (reAt ts m).a (reAt ts m).b (reAt ts m).c a b c w hadd2
        obtain ⟨p', q, hpp, hq, hcw⟩ := HXX.out.at (i := m) (by omega)
        cases hpp
        have HQ : Hid (∀ w', Below w.heap.size w w' → Cells5 w' q (reAt ts m)) := fun w' hb => hcw.on hb
        obtain ⟨r, hr⟩ : ∃ r, reAt ts m = r := ⟨_, rfl⟩
        have HR : Hid (reAt ts m = r) := hr
        have hbt : backT ts (m : Int) a b c = ts.set m ⟨r.live, r.par, r.a + a, r.b + b, r.c + c⟩ := by simp only [backT, hat, hr]
        rw [hbt]
        rw [hr] at HQ CB
        clear hr hcw hbt hlv hadd2
        obtain ⟨l, p1, ra, rb, rc⟩ := r
        simp only at CB ⊢
        obtain ⟨xa, hxa⟩ : ∃ x, x = ra + a := ⟨_, rfl⟩
        obtain ⟨xb, hxb⟩ : ∃ x, x = rb + b := ⟨_, rfl⟩
        obtain ⟨xc, hxc⟩ : ∃ x, x = rc + c := ⟨_, rfl⟩
        rw [← hxa, ← hxb, ← hxc] at CB ⊢
        clear hxa hxb hxc
        rw [hlive] at HCL
        rw [hl] at CC HCO HSM HCL hcap ⊢
        clear hok e1 e2 HXX hadd hl hlive hat hlvm
        generalize sumN Re.a ts 5 = s1 at HSM CA
        generalize sumN Re.b ts 5 = s2 at HSM CA
        generalize sumN Re.c ts 5 = s3 at HSM CA
        generalize s1 + a = ya at CA
        generalize s2 + b = yb at CA
        generalize s3 + c = yc at CA
        go_enter Tryd.func31, Tryd.ntmps31
        go_wp2_with fail
        refine CC.mono ?_
        rintro e w1 ⟨g, c1, rs, rfl, ho, hb⟩
        have HB1 : Hid (Below w.heap.size w w1) := below_more HB0.out hb
        have HO1 := hid_of ho
        have HX1 : Hid (Box3 w1 w.heap.size 37 a b c) := box_on HX0.out hb
        clear CC hb ho HX0 HB0
        go_wp2_with fail
        refine (HCO.out w1 HB1.out).mono ?_
        rintro e w2 ⟨rfl, hb⟩
        have HB2 : Hid (Below w.heap.size w w2) := below_more HB1.out hb
        have HO2 := hid_of (HO1.out.on hb)
        have HX2 : Hid (Box3 w2 w.heap.size 37 a b c) := box_on HX1.out hb
        clear HCO hb HO1 HX1 HB1
        go_wp2_with fail
        refine wp_region_whole (by kernel_rfl) (by kernel_rfl) (by kernel_rfl) (by kernel_rfl) (AnsR w2 7 8 [.slice (some p) 5 cap, amt s1 s2 s3, amt a b c, .tuple #[amt ya yb yc, .bool true], .tuple #[amt ya yb yc, .bool true], amt ya yb yc, .bool true, undef, undef, .bool true] ya yb yc) (ansR_start w2 7 8 _ _ _ _) ?_ ?_
        · refine ⟨?_, ?_, ?_, ?_, ?_, ?_, ?_, ?_, ?_, ?_, trivial⟩
          · intro b0 us wz L hslot hoth hLi hR hcl hdo K hK
            have s0 : b0.tmps.getD 0 undef = .slice (some p) 5 cap := hoth 0 (by rfl)
            clear hslot hoth hdo hcl hLi
            refine guard_none (by rfl) ?_
            go_simp
            exact hK _ _ (hR.mark (by decide) (by decide) (Below.refl _ _) rfl)
          · intro b0 us wz L hslot hoth hLi hR hcl hdo K hK
            have s20 : b0.tmps.getD 20 undef = .slice (some p) 5 cap := (hslot 0 20 (by rfl)).trans (hR.vals 0 (done_at hdo 0 (by rfl)) (by decide))
            clear hslot hoth hdo hcl hLi
            refine guard_none (by rfl) ?_
            go_simp
            refine (HSM.out wz (below_more HB2.out hR.below)).mono ?_
            rintro e w' ⟨rfl, hb⟩
            exact hK _ _ (hR.mark (by decide) (by decide) hb rfl)
          · intro b0 us wz L hslot hoth hLi hR hcl hdo K hK
            have s5 : b0.tmps.getD 5 undef = .pointer (some ⟨w.heap.size, 0, none⟩) := hoth 5 (by rfl)
            have bb := box_on HX2.out hR.below
            have k0 := bb.c0
            have k1 := bb.c1
            have k2 := bb.c2
            clear bb
            clear hslot hoth hdo hcl hLi
            refine guard_none (by rfl) ?_
            go_simp
            exact hK _ _ (hR.mark (by decide) (by decide) (Below.refl _ _) rfl)
          · intro b0 us wz L hslot hoth hLi hR hcl hdo K hK
            have s21 : b0.tmps.getD 21 undef = amt s1 s2 s3 := (hslot 1 21 (by rfl)).trans (hR.vals 1 (done_at hdo 1 (by rfl)) (by decide))
            have s22 : b0.tmps.getD 22 undef = amt a b c := (hslot 2 22 (by rfl)).trans (hR.vals 2 (done_at hdo 2 (by rfl)) (by decide))
            clear hslot hoth hdo hcl hLi
            refine guard_none (by rfl) ?_
            go_simp
            refine (CA wz).mono ?_
            rintro e w' ⟨rfl, hb⟩
            exact hK _ _ (hR.mark (by decide) (by decide) hb rfl)
          · intro b0 us wz L hslot hoth hLi hR hcl hdo K hK
            have s23 : b0.tmps.getD 23 undef = .tuple #[amt ya yb yc, .bool true] := (hslot 3 23 (by rfl)).trans (hR.vals 3 (done_at hdo 3 (by rfl)) (by decide))
            clear hslot hoth hdo hcl hLi
            refine guard_none (by rfl) ?_
            go_simp
            exact hK _ _ (hR.mark (by decide) (by decide) (Below.refl _ _) rfl)
          · intro b0 us wz L hslot hoth hLi hR hcl hdo K hK
            have s19 : b0.tmps.getD 19 undef = .tuple #[amt ya yb yc, .bool true] := (hslot 4 19 (by rfl)).trans (hR.vals 4 (done_at hdo 4 (by rfl)) (by decide))
            clear hslot hoth hdo hcl hLi
            refine guard_none (by rfl) ?_
            go_simp
            exact hK _ _ (hR.mark (by decide) (by decide) (Below.refl _ _) rfl)
          · intro b0 us wz L hslot hoth hLi hR hcl hdo K hK
            have s19 : b0.tmps.getD 19 undef = .tuple #[amt ya yb yc, .bool true] := (hslot 4 19 (by rfl)).trans (hR.vals 4 (done_at hdo 4 (by rfl)) (by decide))
            clear hslot hoth hdo hcl hLi
            refine guard_none (by rfl) ?_
            go_simp
            exact hK _ _ (hR.mark (by decide) (by decide) (Below.refl _ _) rfl)
          · intro b0 us wz L hslot hoth hLi hR hcl hdo K hK
            have hs : L 8 = false := by
              cases h : L 8 with
              | false => rfl
              | true => rw [done_at (hcl 8 _ rfl h) 7 (by rfl)] at hLi; cases hLi
            clear hslot hoth hdo hcl hLi
            refine guard_none (by rfl) ?_
            go_simp
            exact hK _ _ (hR.new (by decide) hs)
          · intro b0 us wz L hslot hoth hLi hR hcl hdo K hK
            have da := done_at hdo 7 (by rfl)
            obtain ⟨gb, p_, q_, r_, hu, hge, hbx, _⟩ := hR.box da
            have s9 : b0.tmps.getD 9 undef = .pointer (some ⟨gb, 0, none⟩) := (hslot 7 9 (by rfl)).trans hu
            have s24 : b0.tmps.getD 24 undef = amt ya yb yc := (hslot 5 24 (by rfl)).trans (hR.vals 5 (done_at hdo 5 (by rfl)) (by decide))
            have k0 := hbx.c0
            have k1 := hbx.c1
            have k2 := hbx.c2
            have f0 := hbx.f0 0
            have f1 := hbx.f0 1
            have f2 := hbx.f0 2
            clear hslot hoth hdo hcl hLi
            refine guard_none (by rfl) ?_
            go_simp
            exact hK undef _ (hR.put (by decide) rfl da hu)
          · intro b0 us wz L hslot hoth hLi hR hcl hdo K hK
            have s25 : b0.tmps.getD 25 undef = .bool true := (hslot 6 25 (by rfl)).trans (hR.vals 6 (done_at hdo 6 (by rfl)) (by decide))
            clear hslot hoth hdo hcl hLi
            refine guard_none (by rfl) ?_
            go_simp
            exact hK _ _ (hR.mark (by decide) (by decide) (Below.refl _ _) rfl)
        · intro us wn L hall hR a' ha'
          have g0 : us 0 = .slice (some p) 5 cap := hR.vals 0 (hall 0 (by decide)) (by decide)
          have g1 : us 1 = amt s1 s2 s3 := hR.vals 1 (hall 1 (by decide)) (by decide)
          have g2 : us 2 = amt a b c := hR.vals 2 (hall 2 (by decide)) (by decide)
          have g3 : us 3 = .tuple #[amt ya yb yc, .bool true] := hR.vals 3 (hall 3 (by decide)) (by decide)
          have g4 : us 4 = .tuple #[amt ya yb yc, .bool true] := hR.vals 4 (hall 4 (by decide)) (by decide)
          have g5 : us 5 = amt ya yb yc := hR.vals 5 (hall 5 (by decide)) (by decide)
          have g6 : us 6 = .bool true := hR.vals 6 (hall 6 (by decide)) (by decide)
          have g9 : us 9 = .bool true := hR.vals 9 (hall 9 (by decide)) (by decide)
          obtain ⟨gb, p_, q_, r_, g7, hge, hbx, hfill⟩ := hR.box (hall 7 (by decide))
          obtain ⟨h1_, h2_, h3_⟩ := hfill (hall 8 (by decide))
          rw [h1_, h2_, h3_] at hbx
          clear h1_ h2_ h3_ hfill
          have HBN : Hid (Below w2.heap.size w2 wn) := hR.below
          clear hbx hge
          clear hR hall
          simp only [putAll, g0, g1, g2, g3, g4, g5, g6, g7, g9] at ha'
          subst ha'
          go_frame
          have HB3 : Hid (Below w.heap.size w wn) := below_more HB2.out HBN.out
          have HO3 := hid_of (HO2.out.on HBN.out)
          have HX3 : Hid (Box3 wn w.heap.size 37 a b c) := box_on HX2.out HBN.out
          clear HBN HO2 HB2 HX2 HSM CA
          go_wp2_with fail
          refine (HCL.out wn HB3.out).mono ?_
          rintro e w4 ⟨rfl, hb⟩
          have HB4 : Hid (Below w.heap.size w w4) := below_more HB3.out hb
          have HO4 := hid_of (HO3.out.on hb)
          have HX4 : Hid (Box3 w4 w.heap.size 37 a b c) := box_on HX3.out hb
          clear HCL hb HO3 HX3 HB3
          go_wp2_with fail
          refine wp_region_whole (by kernel_rfl) (by kernel_rfl) (by kernel_rfl) (by kernel_rfl) (AnsR w4 10 11 [.slice (some p) 5 cap, .int .i64 (m : Int), .pointer (some q), .pointer (some ⟨q.block, q.off + 2, none⟩), amt ra rb rc, amt a b c, .tuple #[amt xa xb xc, .bool true], .tuple #[amt xa xb xc, .bool true], amt xa xb xc, .bool true, undef, undef, .bool true] xa xb xc) (ansR_start w4 10 11 _ _ _ _) ?_ ?_
          · refine ⟨?_, ?_, ?_, ?_, ?_, ?_, ?_, ?_, ?_, ?_, ?_, ?_, ?_, trivial⟩
            · intro b0 us wz L hslot hoth hLi hR hcl hdo K hK
              have s0 : b0.tmps.getD 0 undef = .slice (some p) 5 cap := hoth 0 (by rfl)
              clear hslot hoth hdo hcl hLi
              refine guard_none (by rfl) ?_
              go_simp
              exact hK _ _ (hR.mark (by decide) (by decide) (Below.refl _ _) rfl)
            · intro b0 us wz L hslot hoth hLi hR hcl hdo K hK
              have s1 : b0.tmps.getD 1 undef = .int .i64 (m : Int) := hoth 1 (by rfl)
              clear hslot hoth hdo hcl hLi
              refine guard_none (by rfl) ?_
              go_simp
              exact hK _ _ (hR.mark (by decide) (by decide) (Below.refl _ _) rfl)
            · intro b0 us wz L hslot hoth hLi hR hcl hdo K hK
              have s34 : b0.tmps.getD 34 undef = .slice (some p) 5 cap := (hslot 0 34 (by rfl)).trans (hR.vals 0 (done_at hdo 0 (by rfl)) (by decide))
              have s35 : b0.tmps.getD 35 undef = .int .i64 (m : Int) := (hslot 1 35 (by rfl)).trans (hR.vals 1 (done_at hdo 1 (by rfl)) (by decide))
              clear hslot hoth hdo hcl hLi
              refine guard_none (by rfl) ?_
              go_simp
              exact hK _ _ (hR.mark (by decide) (by decide) (Below.refl _ _) rfl)
            · intro b0 us wz L hslot hoth hLi hR hcl hdo K hK
              have s36 : b0.tmps.getD 36 undef = .pointer (some q) := (hslot 2 36 (by rfl)).trans (hR.vals 2 (done_at hdo 2 (by rfl)) (by decide))
              clear hslot hoth hdo hcl hLi
              refine guard_none (by rfl) ?_
              go_simp
              exact hK _ _ (hR.mark (by decide) (by decide) (Below.refl _ _) rfl)
            · intro b0 us wz L hslot hoth hLi hR hcl hdo K hK
              have s37 : b0.tmps.getD 37 undef = .pointer (some ⟨q.block, q.off + 2, none⟩) := (hslot 3 37 (by rfl)).trans (hR.vals 3 (done_at hdo 3 (by rfl)) (by decide))
              have cc := HQ.out wz (below_more HB4.out hR.below)
              have k2 := cc.c2
              have k3 := cc.c3
              have k4 := cc.c4
              simp only at k2 k3 k4
              clear cc
              clear hslot hoth hdo hcl hLi
              refine guard_none (by rfl) ?_
              go_simp
              exact hK _ _ (hR.mark (by decide) (by decide) (Below.refl _ _) rfl)
            · intro b0 us wz L hslot hoth hLi hR hcl hdo K hK
              have s5 : b0.tmps.getD 5 undef = .pointer (some ⟨w.heap.size, 0, none⟩) := hoth 5 (by rfl)
              have bb := box_on HX4.out hR.below
              have k0 := bb.c0
              have k1 := bb.c1
              have k2 := bb.c2
              clear bb
              clear hslot hoth hdo hcl hLi
              refine guard_none (by rfl) ?_
              go_simp
              exact hK _ _ (hR.mark (by decide) (by decide) (Below.refl _ _) rfl)
            · intro b0 us wz L hslot hoth hLi hR hcl hdo K hK
              have s38 : b0.tmps.getD 38 undef = amt ra rb rc := (hslot 4 38 (by rfl)).trans (hR.vals 4 (done_at hdo 4 (by rfl)) (by decide))
              have s39 : b0.tmps.getD 39 undef = amt a b c := (hslot 5 39 (by rfl)).trans (hR.vals 5 (done_at hdo 5 (by rfl)) (by decide))
              clear hslot hoth hdo hcl hLi
              refine guard_none (by rfl) ?_
              go_simp
              refine (CB wz).mono ?_
              rintro e w' ⟨rfl, hb⟩
              exact hK _ _ (hR.mark (by decide) (by decide) hb rfl)
            · intro b0 us wz L hslot hoth hLi hR hcl hdo K hK
              have s40 : b0.tmps.getD 40 undef = .tuple #[amt xa xb xc, .bool true] := (hslot 6 40 (by rfl)).trans (hR.vals 6 (done_at hdo 6 (by rfl)) (by decide))
              clear hslot hoth hdo hcl hLi
              refine guard_none (by rfl) ?_
              go_simp
              exact hK _ _ (hR.mark (by decide) (by decide) (Below.refl _ _) rfl)
            · intro b0 us wz L hslot hoth hLi hR hcl hdo K hK
              have s33 : b0.tmps.getD 33 undef = .tuple #[amt xa xb xc, .bool true] := (hslot 7 33 (by rfl)).trans (hR.vals 7 (done_at hdo 7 (by rfl)) (by decide))
              clear hslot hoth hdo hcl hLi
              refine guard_none (by rfl) ?_
              go_simp
              exact hK _ _ (hR.mark (by decide) (by decide) (Below.refl _ _) rfl)
            · intro b0 us wz L hslot hoth hLi hR hcl hdo K hK
              have s33 : b0.tmps.getD 33 undef = .tuple #[amt xa xb xc, .bool true] := (hslot 7 33 (by rfl)).trans (hR.vals 7 (done_at hdo 7 (by rfl)) (by decide))
              clear hslot hoth hdo hcl hLi
              refine guard_none (by rfl) ?_
              go_simp
              exact hK _ _ (hR.mark (by decide) (by decide) (Below.refl _ _) rfl)
            · intro b0 us wz L hslot hoth hLi hR hcl hdo K hK
              have hs : L 11 = false := by
                cases h : L 11 with
                | false => rfl
                | true => rw [done_at (hcl 11 _ rfl h) 10 (by rfl)] at hLi; cases hLi
              clear hslot hoth hdo hcl hLi
              refine guard_none (by rfl) ?_
              go_simp
              exact hK _ _ (hR.new (by decide) hs)
            · intro b0 us wz L hslot hoth hLi hR hcl hdo K hK
              have da := done_at hdo 10 (by rfl)
              obtain ⟨gb, p_, q_, r_, hu, hge, hbx, _⟩ := hR.box da
              have s11 : b0.tmps.getD 11 undef = .pointer (some ⟨gb, 0, none⟩) := (hslot 10 11 (by rfl)).trans hu
              have s41 : b0.tmps.getD 41 undef = amt xa xb xc := (hslot 8 41 (by rfl)).trans (hR.vals 8 (done_at hdo 8 (by rfl)) (by decide))
              have k0 := hbx.c0
              have k1 := hbx.c1
              have k2 := hbx.c2
              have f0 := hbx.f0 0
              have f1 := hbx.f0 1
              have f2 := hbx.f0 2
              clear hslot hoth hdo hcl hLi
              refine guard_none (by rfl) ?_
              go_simp
              exact hK undef _ (hR.put (by decide) rfl da hu)
            · intro b0 us wz L hslot hoth hLi hR hcl hdo K hK
              have s42 : b0.tmps.getD 42 undef = .bool true := (hslot 9 42 (by rfl)).trans (hR.vals 9 (done_at hdo 9 (by rfl)) (by decide))
              clear hslot hoth hdo hcl hLi
              refine guard_none (by rfl) ?_
              go_simp
              exact hK _ _ (hR.mark (by decide) (by decide) (Below.refl _ _) rfl)
          · intro us wm L hall hR a' ha'
            have g0 : us 0 = .slice (some p) 5 cap := hR.vals 0 (hall 0 (by decide)) (by decide)
            have g1 : us 1 = .int .i64 (m : Int) := hR.vals 1 (hall 1 (by decide)) (by decide)
            have g2 : us 2 = .pointer (some q) := hR.vals 2 (hall 2 (by decide)) (by decide)
            have g3 : us 3 = .pointer (some ⟨q.block, q.off + 2, none⟩) := hR.vals 3 (hall 3 (by decide)) (by decide)
            have g4 : us 4 = amt ra rb rc := hR.vals 4 (hall 4 (by decide)) (by decide)
            have g5 : us 5 = amt a b c := hR.vals 5 (hall 5 (by decide)) (by decide)
            have g6 : us 6 = .tuple #[amt xa xb xc, .bool true] := hR.vals 6 (hall 6 (by decide)) (by decide)
            have g7 : us 7 = .tuple #[amt xa xb xc, .bool true] := hR.vals 7 (hall 7 (by decide)) (by decide)
            have g8 : us 8 = amt xa xb xc := hR.vals 8 (hall 8 (by decide)) (by decide)
            have g9 : us 9 = .bool true := hR.vals 9 (hall 9 (by decide)) (by decide)
            have g12 : us 12 = .bool true := hR.vals 12 (hall 12 (by decide)) (by decide)
            obtain ⟨gb, p_, q_, r_, g10, hge, hbx, hfill⟩ := hR.box (hall 10 (by decide))
            obtain ⟨h1_, h2_, h3_⟩ := hfill (hall 11 (by decide))
            rw [h1_, h2_, h3_] at hbx
            clear h1_ h2_ h3_ hfill
            have HBN : Hid (Below w4.heap.size w4 wm) := hR.below
            have HBX : Hid (Box3 wm gb 37 xa xb xc) := hbx
            clear hR hall
            simp only [putAll, g0, g1, g2, g3, g4, g5, g6, g7, g8, g9, g10, g12] at ha'
            subst ha'
            go_frame
            have HB5 : Hid (Below w.heap.size w wm) := below_more HB4.out HBN.out
            have ho3 := HO4.out.on HBN.out
            have hml : m < ts.length := by rw [HL.out]; omega
            have hcp : 5 ≤ c1 := by have := ho3.cap; rw [HL.out] at this; exact this
            have d := ho3.at'.cell m hml
            have d2 := d.c2
            have d3 := d.c3
            have d4 := d.c4
            simp only at d2 d3 d4
            have f2 := ho3.at'.free (m * 5 + 2)
            have f3 := ho3.at'.free (m * 5 + 3)
            have f4 := ho3.at'.free (m * 5 + 4)
            have t2 := ho3.at'.put2 m hml xa
            have t3 := t2.put3 m (by simpa using hml) xb
            rw [reAt_set _ _ _ hml, List.set_set] at t3
            have t4 := t3.put4 m (by simpa using hml) xc
            rw [reAt_set _ _ _ hml, List.set_set, HR.out] at t4
            have k0 := HBX.out.c0
            have k1 := HBX.out.c1
            have k2 := HBX.out.c2
            have hlo : w.heap.size ≤ g := by have := ho3.lo; simp at this; omega
            have HT : Hid (OwnT g c1 (ts.set m ⟨l, p1, xa, xb, xc⟩) rs w.heap.size (((wm.setCell ⟨g, m * 5 + 2, none⟩ (.int .i64 xa)).setCell ⟨g, m * 5 + 3, none⟩ (.int .i64 xb)).setCell ⟨g, m * 5 + 4, none⟩ (.int .i64 xc)).heap.size (((wm.setCell ⟨g, m * 5 + 2, none⟩ (.int .i64 xa)).setCell ⟨g, m * 5 + 3, none⟩ (.int .i64 xb)).setCell ⟨g, m * 5 + 4, none⟩ (.int .i64 xc))) :=
              ⟨t4, by simpa using ho3.cap, hlo, by have := lt_of_block t4; exact this⟩
            have HB6 : Hid (Below w.heap.size w (((wm.setCell ⟨g, m * 5 + 2, none⟩ (.int .i64 xa)).setCell ⟨g, m * 5 + 3, none⟩ (.int .i64 xb)).setCell ⟨g, m * 5 + 4, none⟩ (.int .i64 xc))) := ((HB5.out.setCell (p := ⟨g, _, none⟩) hlo _).setCell (p := ⟨g, _, none⟩) hlo _).setCell (p := ⟨g, _, none⟩) hlo _
            generalize (reAt ts m).a = o2 at d2
            generalize (reAt ts m).b = o3 at d3
            generalize (reAt ts m).c = o4 at d4
            clear HBN HO4 HB4 HX4 HQ CB HBX ho3 d t2 t3 t4 HB5 HR hlo
            go_wp2
            go_returns
            exact ⟨g, c1, rs, rfl, HT.out, HB6.out⟩
      | false =>
        have hat : backAt ts i0 = 0 := by simp [backAt, hlive]
        have hml0 : 0 < 5 := by omega
        have hlv : (reAt ts 0).live = true := treeOk_rlive hok
        have hadd2 : addOk (reAt ts 0).a (reAt ts 0).b (reAt ts 0).c a b c = true := addOk_one hok hadd hml0 hlv
        have CB := fun w => specAdd_yes (reAt ts 0).a (reAt ts 0).b (reAt ts 0).c a b c w hadd2
        obtain ⟨p', q, hpp, hq, hcw⟩ := HXX.out.at (i := 0) (by omega)
        cases hpp
        have hq0 : p.add 0 = q := hq
        clear hq
        have HQ : Hid (∀ w', Below w.heap.size w w' → Cells5 w' q (reAt ts 0)) := fun w' hb => hcw.on hb
        obtain ⟨r, hr⟩ : ∃ r, reAt ts 0 = r := ⟨_, rfl⟩
        have HR : Hid (reAt ts 0 = r) := hr
        have hbt : backT ts i0 a b c = ts.set 0 ⟨r.live, r.par, r.a + a, r.b + b, r.c + c⟩ := by simp only [backT, hat, hr]
        rw [hbt]
        rw [hr] at HQ CB
        clear hr hcw hbt hlv hadd2
        obtain ⟨l, p1, ra, rb, rc⟩ := r
        simp only at CB ⊢
        obtain ⟨xa, hxa⟩ : ∃ x, x = ra + a := ⟨_, rfl⟩
        obtain ⟨xb, hxb⟩ : ∃ x, x = rb + b := ⟨_, rfl⟩
        obtain ⟨xc, hxc⟩ : ∃ x, x = rc + c := ⟨_, rfl⟩
        rw [← hxa, ← hxb, ← hxc] at CB ⊢
        clear hxa hxb hxc
        rw [hlive] at HCL
        rw [hl] at CC HCO HSM HCL hcap ⊢
        clear hok e1 e2 HXX hadd hl hlive hat
        generalize sumN Re.a ts 5 = s1 at HSM CA
        generalize sumN Re.b ts 5 = s2 at HSM CA
        generalize sumN Re.c ts 5 = s3 at HSM CA
        generalize s1 + a = ya at CA
        generalize s2 + b = yb at CA
        generalize s3 + c = yc at CA
        go_enter Tryd.func31, Tryd.ntmps31
        go_wp2_with fail
        refine CC.mono ?_
        rintro e w1 ⟨g, c1, rs, rfl, ho, hb⟩
        have HB1 : Hid (Below w.heap.size w w1) := below_more HB0.out hb
        have HO1 := hid_of ho
        have HX1 : Hid (Box3 w1 w.heap.size 37 a b c) := box_on HX0.out hb
        clear CC hb ho HX0 HB0
        go_wp2_with fail
        refine (HCO.out w1 HB1.out).mono ?_
        rintro e w2 ⟨rfl, hb⟩
        have HB2 : Hid (Below w.heap.size w w2) := below_more HB1.out hb
        have HO2 := hid_of (HO1.out.on hb)
        have HX2 : Hid (Box3 w2 w.heap.size 37 a b c) := box_on HX1.out hb
        clear HCO hb HO1 HX1 HB1
        go_wp2_with fail
        refine wp_region_whole (by kernel_rfl) (by kernel_rfl) (by kernel_rfl) (by kernel_rfl) (AnsR w2 7 8 [.slice (some p) 5 cap, amt s1 s2 s3, amt a b c, .tuple #[amt ya yb yc, .bool true], .tuple #[amt ya yb yc, .bool true], amt ya yb yc, .bool true, undef, undef, .bool true] ya yb yc) (ansR_start w2 7 8 _ _ _ _) ?_ ?_
        · refine ⟨?_, ?_, ?_, ?_, ?_, ?_, ?_, ?_, ?_, ?_, trivial⟩
          · intro b0 us wz L hslot hoth hLi hR hcl hdo K hK
            have s0 : b0.tmps.getD 0 undef = .slice (some p) 5 cap := hoth 0 (by rfl)
            clear hslot hoth hdo hcl hLi
            refine guard_none (by rfl) ?_
            go_simp
            exact hK _ _ (hR.mark (by decide) (by decide) (Below.refl _ _) rfl)
          · intro b0 us wz L hslot hoth hLi hR hcl hdo K hK
            have s20 : b0.tmps.getD 20 undef = .slice (some p) 5 cap := (hslot 0 20 (by rfl)).trans (hR.vals 0 (done_at hdo 0 (by rfl)) (by decide))
            clear hslot hoth hdo hcl hLi
            refine guard_none (by rfl) ?_
            go_simp
            refine (HSM.out wz (below_more HB2.out hR.below)).mono ?_
            rintro e w' ⟨rfl, hb⟩
            exact hK _ _ (hR.mark (by decide) (by decide) hb rfl)
          · intro b0 us wz L hslot hoth hLi hR hcl hdo K hK
            have s5 : b0.tmps.getD 5 undef = .pointer (some ⟨w.heap.size, 0, none⟩) := hoth 5 (by rfl)
            have bb := box_on HX2.out hR.below
            have k0 := bb.c0
            have k1 := bb.c1
            have k2 := bb.c2
            clear bb
            clear hslot hoth hdo hcl hLi
            refine guard_none (by rfl) ?_
            go_simp
            exact hK _ _ (hR.mark (by decide) (by decide) (Below.refl _ _) rfl)
          · intro b0 us wz L hslot hoth hLi hR hcl hdo K hK
            have s21 : b0.tmps.getD 21 undef = amt s1 s2 s3 := (hslot 1 21 (by rfl)).trans (hR.vals 1 (done_at hdo 1 (by rfl)) (by decide))
            have s22 : b0.tmps.getD 22 undef = amt a b c := (hslot 2 22 (by rfl)).trans (hR.vals 2 (done_at hdo 2 (by rfl)) (by decide))
            clear hslot hoth hdo hcl hLi
            refine guard_none (by rfl) ?_
            go_simp
            refine (CA wz).mono ?_
            rintro e w' ⟨rfl, hb⟩
            exact hK _ _ (hR.mark (by decide) (by decide) hb rfl)
          · intro b0 us wz L hslot hoth hLi hR hcl hdo K hK
            have s23 : b0.tmps.getD 23 undef = .tuple #[amt ya yb yc, .bool true] := (hslot 3 23 (by rfl)).trans (hR.vals 3 (done_at hdo 3 (by rfl)) (by decide))
            clear hslot hoth hdo hcl hLi
            refine guard_none (by rfl) ?_
            go_simp
            exact hK _ _ (hR.mark (by decide) (by decide) (Below.refl _ _) rfl)
          · intro b0 us wz L hslot hoth hLi hR hcl hdo K hK
            have s19 : b0.tmps.getD 19 undef = .tuple #[amt ya yb yc, .bool true] := (hslot 4 19 (by rfl)).trans (hR.vals 4 (done_at hdo 4 (by rfl)) (by decide))
            clear hslot hoth hdo hcl hLi
            refine guard_none (by rfl) ?_
            go_simp
            exact hK _ _ (hR.mark (by decide) (by decide) (Below.refl _ _) rfl)
          · intro b0 us wz L hslot hoth hLi hR hcl hdo K hK
            have s19 : b0.tmps.getD 19 undef = .tuple #[amt ya yb yc, .bool true] := (hslot 4 19 (by rfl)).trans (hR.vals 4 (done_at hdo 4 (by rfl)) (by decide))
            clear hslot hoth hdo hcl hLi
            refine guard_none (by rfl) ?_
            go_simp
            exact hK _ _ (hR.mark (by decide) (by decide) (Below.refl _ _) rfl)
          · intro b0 us wz L hslot hoth hLi hR hcl hdo K hK
            have hs : L 8 = false := by
              cases h : L 8 with
              | false => rfl
              | true => rw [done_at (hcl 8 _ rfl h) 7 (by rfl)] at hLi; cases hLi
            clear hslot hoth hdo hcl hLi
            refine guard_none (by rfl) ?_
            go_simp
            exact hK _ _ (hR.new (by decide) hs)
          · intro b0 us wz L hslot hoth hLi hR hcl hdo K hK
            have da := done_at hdo 7 (by rfl)
            obtain ⟨gb, p_, q_, r_, hu, hge, hbx, _⟩ := hR.box da
            have s9 : b0.tmps.getD 9 undef = .pointer (some ⟨gb, 0, none⟩) := (hslot 7 9 (by rfl)).trans hu
            have s24 : b0.tmps.getD 24 undef = amt ya yb yc := (hslot 5 24 (by rfl)).trans (hR.vals 5 (done_at hdo 5 (by rfl)) (by decide))
            have k0 := hbx.c0
            have k1 := hbx.c1
            have k2 := hbx.c2
            have f0 := hbx.f0 0
            have f1 := hbx.f0 1
            have f2 := hbx.f0 2
            clear hslot hoth hdo hcl hLi
            refine guard_none (by rfl) ?_
            go_simp
            exact hK undef _ (hR.put (by decide) rfl da hu)
          · intro b0 us wz L hslot hoth hLi hR hcl hdo K hK
            have s25 : b0.tmps.getD 25 undef = .bool true := (hslot 6 25 (by rfl)).trans (hR.vals 6 (done_at hdo 6 (by rfl)) (by decide))
            clear hslot hoth hdo hcl hLi
            refine guard_none (by rfl) ?_
            go_simp
            exact hK _ _ (hR.mark (by decide) (by decide) (Below.refl _ _) rfl)
        · intro us wn L hall hR a' ha'
          have g0 : us 0 = .slice (some p) 5 cap := hR.vals 0 (hall 0 (by decide)) (by decide)
          have g1 : us 1 = amt s1 s2 s3 := hR.vals 1 (hall 1 (by decide)) (by decide)
          have g2 : us 2 = amt a b c := hR.vals 2 (hall 2 (by decide)) (by decide)
          have g3 : us 3 = .tuple #[amt ya yb yc, .bool true] := hR.vals 3 (hall 3 (by decide)) (by decide)
          have g4 : us 4 = .tuple #[amt ya yb yc, .bool true] := hR.vals 4 (hall 4 (by decide)) (by decide)
          have g5 : us 5 = amt ya yb yc := hR.vals 5 (hall 5 (by decide)) (by decide)
          have g6 : us 6 = .bool true := hR.vals 6 (hall 6 (by decide)) (by decide)
          have g9 : us 9 = .bool true := hR.vals 9 (hall 9 (by decide)) (by decide)
          obtain ⟨gb, p_, q_, r_, g7, hge, hbx, hfill⟩ := hR.box (hall 7 (by decide))
          obtain ⟨h1_, h2_, h3_⟩ := hfill (hall 8 (by decide))
          rw [h1_, h2_, h3_] at hbx
          clear h1_ h2_ h3_ hfill
          have HBN : Hid (Below w2.heap.size w2 wn) := hR.below
          clear hbx hge
          clear hR hall
          simp only [putAll, g0, g1, g2, g3, g4, g5, g6, g7, g9] at ha'
          subst ha'
          go_frame
          have HB3 : Hid (Below w.heap.size w wn) := below_more HB2.out HBN.out
          have HO3 := hid_of (HO2.out.on HBN.out)
          have HX3 : Hid (Box3 wn w.heap.size 37 a b c) := box_on HX2.out HBN.out
          clear HBN HO2 HB2 HX2 HSM CA
          go_wp2_with fail
          refine (HCL.out wn HB3.out).mono ?_
          rintro e w4 ⟨rfl, hb⟩
          have HB4 : Hid (Below w.heap.size w w4) := below_more HB3.out hb
          have HO4 := hid_of (HO3.out.on hb)
          have HX4 : Hid (Box3 w4 w.heap.size 37 a b c) := box_on HX3.out hb
          clear HCL hb HO3 HX3 HB3
          go_wp2_with fail
          refine wp_region_whole (by kernel_rfl) (by kernel_rfl) (by kernel_rfl) (by kernel_rfl) (AnsR w4 10 11 [.slice (some p) 5 cap, .int .i64 0, .pointer (some q), .pointer (some ⟨q.block, q.off + 2, none⟩), amt ra rb rc, amt a b c, .tuple #[amt xa xb xc, .bool true], .tuple #[amt xa xb xc, .bool true], amt xa xb xc, .bool true, undef, undef, .bool true] xa xb xc) (ansR_start w4 10 11 _ _ _ _) ?_ ?_
          · refine ⟨?_, ?_, ?_, ?_, ?_, ?_, ?_, ?_, ?_, ?_, ?_, ?_, ?_, trivial⟩
            · intro b0 us wz L hslot hoth hLi hR hcl hdo K hK
              have s0 : b0.tmps.getD 0 undef = .slice (some p) 5 cap := hoth 0 (by rfl)
              clear hslot hoth hdo hcl hLi
              refine guard_none (by rfl) ?_
              go_simp
              exact hK _ _ (hR.mark (by decide) (by decide) (Below.refl _ _) rfl)
            · intro b0 us wz L hslot hoth hLi hR hcl hdo K hK
              have s1 : b0.tmps.getD 1 undef = .int .i64 0 := hoth 1 (by rfl)
              clear hslot hoth hdo hcl hLi
              refine guard_none (by rfl) ?_
              go_simp
              exact hK _ _ (hR.mark (by decide) (by decide) (Below.refl _ _) rfl)
            · intro b0 us wz L hslot hoth hLi hR hcl hdo K hK
              have s34 : b0.tmps.getD 34 undef = .slice (some p) 5 cap := (hslot 0 34 (by rfl)).trans (hR.vals 0 (done_at hdo 0 (by rfl)) (by decide))
              have s35 : b0.tmps.getD 35 undef = .int .i64 0 := (hslot 1 35 (by rfl)).trans (hR.vals 1 (done_at hdo 1 (by rfl)) (by decide))
              clear hslot hoth hdo hcl hLi
              refine guard_none (by rfl) ?_
              go_simp
              exact hK _ _ (hR.mark (by decide) (by decide) (Below.refl _ _) rfl)
            · intro b0 us wz L hslot hoth hLi hR hcl hdo K hK
              have s36 : b0.tmps.getD 36 undef = .pointer (some q) := (hslot 2 36 (by rfl)).trans (hR.vals 2 (done_at hdo 2 (by rfl)) (by decide))
              clear hslot hoth hdo hcl hLi
              refine guard_none (by rfl) ?_
              go_simp
              exact hK _ _ (hR.mark (by decide) (by decide) (Below.refl _ _) rfl)
            · intro b0 us wz L hslot hoth hLi hR hcl hdo K hK
              have s37 : b0.tmps.getD 37 undef = .pointer (some ⟨q.block, q.off + 2, none⟩) := (hslot 3 37 (by rfl)).trans (hR.vals 3 (done_at hdo 3 (by rfl)) (by decide))
              have cc := HQ.out wz (below_more HB4.out hR.below)
              have k2 := cc.c2
              have k3 := cc.c3
              have k4 := cc.c4
              simp only at k2 k3 k4
              clear cc
              clear hslot hoth hdo hcl hLi
              refine guard_none (by rfl) ?_
              go_simp
              exact hK _ _ (hR.mark (by decide) (by decide) (Below.refl _ _) rfl)
            · intro b0 us wz L hslot hoth hLi hR hcl hdo K hK
              have s5 : b0.tmps.getD 5 undef = .pointer (some ⟨w.heap.size, 0, none⟩) := hoth 5 (by rfl)
              have bb := box_on HX4.out hR.below
              have k0 := bb.c0
              have k1 := bb.c1
              have k2 := bb.c2
              clear bb
              clear hslot hoth hdo hcl hLi
              refine guard_none (by rfl) ?_
              go_simp
              exact hK _ _ (hR.mark (by decide) (by decide) (Below.refl _ _) rfl)
            · intro b0 us wz L hslot hoth hLi hR hcl hdo K hK
              have s38 : b0.tmps.getD 38 undef = amt ra rb rc := (hslot 4 38 (by rfl)).trans (hR.vals 4 (done_at hdo 4 (by rfl)) (by decide))
              have s39 : b0.tmps.getD 39 undef = amt a b c := (hslot 5 39 (by rfl)).trans (hR.vals 5 (done_at hdo 5 (by rfl)) (by decide))
              clear hslot hoth hdo hcl hLi
              refine guard_none (by rfl) ?_
              go_simp
              refine (CB wz).mono ?_
              rintro e w' ⟨rfl, hb⟩
              exact hK _ _ (hR.mark (by decide) (by decide) hb rfl)
            · intro b0 us wz L hslot hoth hLi hR hcl hdo K hK
              have s40 : b0.tmps.getD 40 undef = .tuple #[amt xa xb xc, .bool true] := (hslot 6 40 (by rfl)).trans (hR.vals 6 (done_at hdo 6 (by rfl)) (by decide))
              clear hslot hoth hdo hcl hLi
              refine guard_none (by rfl) ?_
              go_simp
              exact hK _ _ (hR.mark (by decide) (by decide) (Below.refl _ _) rfl)
            · intro b0 us wz L hslot hoth hLi hR hcl hdo K hK
              have s33 : b0.tmps.getD 33 undef = .tuple #[amt xa xb xc, .bool true] := (hslot 7 33 (by rfl)).trans (hR.vals 7 (done_at hdo 7 (by rfl)) (by decide))
              clear hslot hoth hdo hcl hLi
              refine guard_none (by rfl) ?_
              go_simp
              exact hK _ _ (hR.mark (by decide) (by decide) (Below.refl _ _) rfl)
            · intro b0 us wz L hslot hoth hLi hR hcl hdo K hK
              have s33 : b0.tmps.getD 33 undef = .tuple #[amt xa xb xc, .bool true] := (hslot 7 33 (by rfl)).trans (hR.vals 7 (done_at hdo 7 (by rfl)) (by decide))
              clear hslot hoth hdo hcl hLi
              refine guard_none (by rfl) ?_
              go_simp
              exact hK _ _ (hR.mark (by decide) (by decide) (Below.refl _ _) rfl)
            · intro b0 us wz L hslot hoth hLi hR hcl hdo K hK
              have hs : L 11 = false := by
                cases h : L 11 with
                | false => rfl
                | true => rw [done_at (hcl 11 _ rfl h) 10 (by rfl)] at hLi; cases hLi
              clear hslot hoth hdo hcl hLi
              refine guard_none (by rfl) ?_
              go_simp
              exact hK _ _ (hR.new (by decide) hs)
            · intro b0 us wz L hslot hoth hLi hR hcl hdo K hK
              have da := done_at hdo 10 (by rfl)
              obtain ⟨gb, p_, q_, r_, hu, hge, hbx, _⟩ := hR.box da
              have s11 : b0.tmps.getD 11 undef = .pointer (some ⟨gb, 0, none⟩) := (hslot 10 11 (by rfl)).trans hu
              have s41 : b0.tmps.getD 41 undef = amt xa xb xc := (hslot 8 41 (by rfl)).trans (hR.vals 8 (done_at hdo 8 (by rfl)) (by decide))
              have k0 := hbx.c0
              have k1 := hbx.c1
              have k2 := hbx.c2
              have f0 := hbx.f0 0
              have f1 := hbx.f0 1
              have f2 := hbx.f0 2
              clear hslot hoth hdo hcl hLi
              refine guard_none (by rfl) ?_
              go_simp
              exact hK undef _ (hR.put (by decide) rfl da hu)
            · intro b0 us wz L hslot hoth hLi hR hcl hdo K hK
              have s42 : b0.tmps.getD 42 undef = .bool true := (hslot 9 42 (by rfl)).trans (hR.vals 9 (done_at hdo 9 (by rfl)) (by decide))
              clear hslot hoth hdo hcl hLi
              refine guard_none (by rfl) ?_
              go_simp
              exact hK _ _ (hR.mark (by decide) (by decide) (Below.refl _ _) rfl)
          · intro us wm L hall hR a' ha'
            have g0 : us 0 = .slice (some p) 5 cap := hR.vals 0 (hall 0 (by decide)) (by decide)
            have g1 : us 1 = .int .i64 0 := hR.vals 1 (hall 1 (by decide)) (by decide)
            have g2 : us 2 = .pointer (some q) := hR.vals 2 (hall 2 (by decide)) (by decide)
            have g3 : us 3 = .pointer (some ⟨q.block, q.off + 2, none⟩) := hR.vals 3 (hall 3 (by decide)) (by decide)
            have g4 : us 4 = amt ra rb rc := hR.vals 4 (hall 4 (by decide)) (by decide)
            have g5 : us 5 = amt a b c := hR.vals 5 (hall 5 (by decide)) (by decide)
            have g6 : us 6 = .tuple #[amt xa xb xc, .bool true] := hR.vals 6 (hall 6 (by decide)) (by decide)
            have g7 : us 7 = .tuple #[amt xa xb xc, .bool true] := hR.vals 7 (hall 7 (by decide)) (by decide)
            have g8 : us 8 = amt xa xb xc := hR.vals 8 (hall 8 (by decide)) (by decide)
            have g9 : us 9 = .bool true := hR.vals 9 (hall 9 (by decide)) (by decide)
            have g12 : us 12 = .bool true := hR.vals 12 (hall 12 (by decide)) (by decide)
            obtain ⟨gb, p_, q_, r_, g10, hge, hbx, hfill⟩ := hR.box (hall 10 (by decide))
            obtain ⟨h1_, h2_, h3_⟩ := hfill (hall 11 (by decide))
            rw [h1_, h2_, h3_] at hbx
            clear h1_ h2_ h3_ hfill
            have HBN : Hid (Below w4.heap.size w4 wm) := hR.below
            have HBX : Hid (Box3 wm gb 37 xa xb xc) := hbx
            clear hR hall
            simp only [putAll, g0, g1, g2, g3, g4, g5, g6, g7, g8, g9, g10, g12] at ha'
            subst ha'
            go_frame
            have HB5 : Hid (Below w.heap.size w wm) := below_more HB4.out HBN.out
            have ho3 := HO4.out.on HBN.out
            have hml : 0 < ts.length := by rw [HL.out]; omega
            have hcp : 5 ≤ c1 := by have := ho3.cap; rw [HL.out] at this; exact this
            have d := ho3.at'.cell 0 hml
            have d2 := d.c2
            have d3 := d.c3
            have d4 := d.c4
            simp only at d2 d3 d4
            have f2 := ho3.at'.free (2)
            have f3 := ho3.at'.free (3)
            have f4 := ho3.at'.free (4)
            have t2 := ho3.at'.put2 0 hml xa
            have t3 := t2.put3 0 (by simpa using hml) xb
            rw [reAt_set _ _ _ hml, List.set_set] at t3
            have t4 := t3.put4 0 (by simpa using hml) xc
            rw [reAt_set _ _ _ hml, List.set_set, HR.out] at t4
            simp only [Nat.zero_mul, Nat.zero_add] at d2 d3 d4 t4
            have k0 := HBX.out.c0
            have k1 := HBX.out.c1
            have k2 := HBX.out.c2
            have hlo : w.heap.size ≤ g := by have := ho3.lo; simp at this; omega
            have HT : Hid (OwnT g c1 (ts.set 0 ⟨l, p1, xa, xb, xc⟩) rs w.heap.size (((wm.setCell ⟨g, 2, none⟩ (.int .i64 xa)).setCell ⟨g, 3, none⟩ (.int .i64 xb)).setCell ⟨g, 4, none⟩ (.int .i64 xc)).heap.size (((wm.setCell ⟨g, 2, none⟩ (.int .i64 xa)).setCell ⟨g, 3, none⟩ (.int .i64 xb)).setCell ⟨g, 4, none⟩ (.int .i64 xc))) :=
              ⟨t4, by simpa using ho3.cap, hlo, by have := lt_of_block t4; exact this⟩
            have HB6 : Hid (Below w.heap.size w (((wm.setCell ⟨g, 2, none⟩ (.int .i64 xa)).setCell ⟨g, 3, none⟩ (.int .i64 xb)).setCell ⟨g, 4, none⟩ (.int .i64 xc))) := ((HB5.out.setCell (p := ⟨g, _, none⟩) hlo _).setCell (p := ⟨g, _, none⟩) hlo _).setCell (p := ⟨g, _, none⟩) hlo _
            generalize (reAt ts 0).a = o2 at d2
            generalize (reAt ts 0).b = o3 at d3
            generalize (reAt ts 0).c = o4 at d4
            clear HBN HO4 HB4 HX4 HQ CB HBX ho3 d t2 t3 t4 HB5 HR hlo
            go_wp2
            go_returns
            exact ⟨g, c1, rs, rfl, HT.out, HB6.out⟩
end Go.Proofs.YtfcenombphodbaaDoor
