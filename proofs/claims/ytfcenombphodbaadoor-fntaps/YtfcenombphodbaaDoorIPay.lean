/-
  What a place of an owned tree pays; the program's TreePay.
-/
import Derived.Test.YtfcenombphodbaaDoorClone
import Derived.Test.YtfcenombphodbaaDoorIsT
import Derived.Test.YtfcenombphodbaaDoorMathDrop
import Derived.Test.YtfcenombphodbaaDoorIBack
namespace Go.Proofs.YtfcenombphodbaaDoor
open Go.RowKit
set_option linter.unusedVariables false
set_option maxRecDepth 100000

set_option maxRecDepth 100000 in
set_option maxHeartbeats 4000000 in
theorem implPay_no (g n cap : Nat) (ts : List Re) (rs : List Value) (i0 a b c : Int) (sa : Addr) (w : World) (ht : TreeIn w g ts rs) (hn : n = ts.length) (hcap : ts.length ≤ cap) (hl : ts.length ≤ 1048576) (hse : w.cell? ⟨0, 0, none⟩ = some (.iface 114 (.pointer (some sa)))) (hp : payOk ts i0 a b c = false) :
    Calls Tryd.prog 53 #[.slice (some ⟨g, 0, none⟩) n cap, .int .i64 i0, amt a b c] w fun e w' => e = .returned (.iface 114 (.pointer (some sa))) ∧ Below w.heap.size w w' := by
  have hb0 : Below w.heap.size w (w.alloc (boxA a b c)) := below_alloc w _
  have HCO : Hid (∀ w', Below w.heap.size w w' → Calls Tryd.prog 55 #[.slice (some ⟨g, 0, none⟩) n cap] w' fun e w'' => e = .returned (.bool (treeOk ts)) ∧ Below w'.heap.size w' w'') := fun w' hb => implTreeOk_any _ ts w' (by rw [hn]; exact (ht.keep hb).tree cap hcap) hl
  have HCL : Hid (∀ w', Below w.heap.size w w' → Calls Tryd.prog 51 #[.slice (some ⟨g, 0, none⟩) n cap, .int .i64 i0] w' fun e w'' => e = .returned (.bool (livePl ts i0)) ∧ w' = w'') := fun w' hb => implLive_any _ ts i0 w' (by rw [hn]; exact (ht.keep hb).tree cap hcap) hl
  have HX0 : Hid (Box3 (w.alloc (boxA a b c)) w.heap.size 37 a b c) := ⟨heap_alloc_new w _⟩
  have HB0 : Hid (Below w.heap.size w (w.alloc (boxA a b c))) := hb0
  have HSE : Hid (∀ w', Below w.heap.size w w' → w'.cell? ⟨0, 0, none⟩ = some (.iface 114 (.pointer (some sa)))) := fun w' hb => (hb.cell (World.block_lt_of_cell? w _ hse)).trans hse
  have HT : Hid (∀ w', Below w.heap.size w w' → TreeIn w' g ts rs) := fun w' hb => ht.keep hb
  cases hok : treeOk ts with
  | false =>
    rw [hok] at HCO
    clear hp hok ht hcap hl hse hb0 HCL hn
    go_enter Tryd.func53, Tryd.ntmps53
    go_wp2_with fail
    refine (HCO.out _ HB0.out).mono ?_
    rintro e w1 ⟨rfl, hb⟩
    have HB1 := hid_of (below_more HB0.out hb)
    have HX1 := hid_of (box_on HX0.out hb)
    clear hb HCO HX0 HB0
    have kg := HSE.out _ HB1.out
    go_wp2
    go_returns
    exact ⟨rfl, HB1.out⟩
  | true =>
    rw [hok] at HCO
    rw [live_eq hok] at HCL
    cases hlive : liveIn ts i0 with
    | false =>
      rw [hlive] at HCL
      clear hp hok ht hcap hl hse hb0 hlive hn
      go_enter Tryd.func53, Tryd.ntmps53
      go_wp2_with fail
      refine (HCO.out _ HB0.out).mono ?_
      rintro e w1 ⟨rfl, hb⟩
      have HB1 := hid_of (below_more HB0.out hb)
      have HX1 := hid_of (box_on HX0.out hb)
      clear hb HCO HX0 HB0
      go_wp2_with fail
      refine (HCL.out w1 HB1.out).mono ?_
      rintro e w2 ⟨rfl, hw2⟩
      subst hw2
      clear HCL
      have kg := HSE.out _ HB1.out
      go_wp2
      go_returns
      exact ⟨rfl, HB1.out⟩
    | true =>
      have hf : fitsIn a b c (reAt ts i0.toNat).a (reAt ts i0.toNat).b (reAt ts i0.toNat).c = false := by simpa [payOk, hlive] using hp
      rw [hlive] at HCL
      obtain ⟨m, rfl, hm⟩ : ∃ m : Nat, i0 = (m : Int) ∧ m < 5 := by
        unfold liveIn at hlive; simp at hlive
        exact ⟨i0.toNat, by omega, by omega⟩
      simp only [Int.toNat_natCast] at hf
      have h5 := treeOk_five hok
      have HM : Hid (m < ts.length) := by show _ < _; omega
      have hmn : (m : Int) < (n : Int) := by omega
      have hmn2 : m < n := by omega
      have hnc : n ≤ cap := by omega
      obtain ⟨r, hr⟩ : ∃ r, reAt ts m = r := ⟨_, rfl⟩
      have HR : Hid (reAt ts m = r) := hr
      rw [hr] at hf
      obtain ⟨l, p1, ra, rb, rc⟩ := r
      simp only at hf
      have CA := fun w => implSub_no ra rb rc a b c w hf
      clear hp hok ht hcap hl hse hb0 hlive h5 hr hf hm hn
      go_enter Tryd.func53, Tryd.ntmps53
      go_wp2_with fail
      refine (HCO.out _ HB0.out).mono ?_
      rintro e w1 ⟨rfl, hb⟩
      have HB1 := hid_of (below_more HB0.out hb)
      have HX1 := hid_of (box_on HX0.out hb)
      clear hb HCO HX0 HB0
      go_wp2_with fail
      refine (HCL.out w1 HB1.out).mono ?_
      rintro e w2 ⟨rfl, hw2⟩
      subst hw2
      clear HCL
      have HT2 := hid_of (HT.out w1 HB1.out)
      have HX2 := HX1
      go_wp2_with fail
      refine wp_region_whole (by kernel_rfl) (by kernel_rfl) (by kernel_rfl) (by kernel_rfl) (AnsR w1 10 11 [.slice (some ⟨g, 0, none⟩) n cap, .int .i64 (m : Int), .pointer (some ⟨g, m * 5, none⟩), .pointer (some ⟨g, m * 5 + 2, none⟩), amt ra rb rc, amt a b c, .tuple #[amt ra rb rc, .bool false], .tuple #[amt ra rb rc, .bool false], amt ra rb rc, .bool false, undef, undef, .bool false] ra rb rc) (ansR_start w1 10 11 _ _ _ _) ?_ ?_
      · refine ⟨?_, ?_, ?_, ?_, ?_, ?_, ?_, ?_, ?_, ?_, ?_, ?_, ?_, trivial⟩
        · intro b0 us wz L hslot hoth hLi hR hcl hdo K hK
          have s0 : b0.tmps.getD 0 undef = .slice (some ⟨g, 0, none⟩) n cap := hoth 0 (by rfl)
          clear hslot hoth hdo hcl hLi
          refine guard_none (by rfl) ?_
          go_simp
          exact hK _ _ (hR.mark (by decide) (by decide) (Below.refl _ _) rfl)
        · intro b0 us wz L hslot hoth hLi hR hcl hdo K hK
          have s1 : b0.tmps.getD 1 undef = .int .i64 (m : Int) := hoth 1 (by rfl)
          clear hslot hoth hdo hcl hLi
          refine guard_none (by rfl) ?_
          go_simp
          exact hK _ _ (hR.mark (by decide) (by decide) (Below.refl _ _) rfl)
        · intro b0 us wz L hslot hoth hLi hR hcl hdo K hK
          have s20 : b0.tmps.getD 20 undef = .slice (some ⟨g, 0, none⟩) n cap := (hslot 0 20 (by rfl)).trans (hR.vals 0 (done_at hdo 0 (by rfl)) (by decide))
          have s21 : b0.tmps.getD 21 undef = .int .i64 (m : Int) := (hslot 1 21 (by rfl)).trans (hR.vals 1 (done_at hdo 1 (by rfl)) (by decide))
          clear hslot hoth hdo hcl hLi
          refine guard_none (by rfl) ?_
          go_simp
          exact hK _ _ (hR.mark (by decide) (by decide) (Below.refl _ _) rfl)
        · intro b0 us wz L hslot hoth hLi hR hcl hdo K hK
          have s22 : b0.tmps.getD 22 undef = .pointer (some ⟨g, m * 5, none⟩) := (hslot 2 22 (by rfl)).trans (hR.vals 2 (done_at hdo 2 (by rfl)) (by decide))
          clear hslot hoth hdo hcl hLi
          refine guard_none (by rfl) ?_
          go_simp
          exact hK _ _ (hR.mark (by decide) (by decide) (Below.refl _ _) rfl)
        · intro b0 us wz L hslot hoth hLi hR hcl hdo K hK
          have s23 : b0.tmps.getD 23 undef = .pointer (some ⟨g, m * 5 + 2, none⟩) := (hslot 3 23 (by rfl)).trans (hR.vals 3 (done_at hdo 3 (by rfl)) (by decide))
          have d := (HT2.out.keep hR.below).cell m HM.out
          rw [HR.out] at d
          have k2 := d.c2
          have k3 := d.c3
          have k4 := d.c4
          simp only at k2 k3 k4
          clear d
          clear hslot hoth hdo hcl hLi
          refine guard_none (by rfl) ?_
          go_simp
          exact hK _ _ (hR.mark (by decide) (by decide) (Below.refl _ _) rfl)
        · intro b0 us wz L hslot hoth hLi hR hcl hdo K hK
          have s5 : b0.tmps.getD 5 undef = .pointer (some ⟨w.heap.size, 0, none⟩) := hoth 5 (by rfl)
          have bb := box_on HX2.out hR.below
          have k0 := bb.c0
          have k1 := bb.c1
          have k2 := bb.c2
          clear bb
          clear hslot hoth hdo hcl hLi
          refine guard_none (by rfl) ?_
          go_simp
          exact hK _ _ (hR.mark (by decide) (by decide) (Below.refl _ _) rfl)
        · intro b0 us wz L hslot hoth hLi hR hcl hdo K hK
          have s24 : b0.tmps.getD 24 undef = amt ra rb rc := (hslot 4 24 (by rfl)).trans (hR.vals 4 (done_at hdo 4 (by rfl)) (by decide))
          have s25 : b0.tmps.getD 25 undef = amt a b c := (hslot 5 25 (by rfl)).trans (hR.vals 5 (done_at hdo 5 (by rfl)) (by decide))
          clear hslot hoth hdo hcl hLi
          refine guard_none (by rfl) ?_
          go_simp
          refine (CA wz).mono ?_
          rintro e w' ⟨rfl, hb⟩
          exact hK _ _ (hR.mark (by decide) (by decide) hb rfl)
        · intro b0 us wz L hslot hoth hLi hR hcl hdo K hK
          have s26 : b0.tmps.getD 26 undef = .tuple #[amt ra rb rc, .bool false] := (hslot 6 26 (by rfl)).trans (hR.vals 6 (done_at hdo 6 (by rfl)) (by decide))
          clear hslot hoth hdo hcl hLi
          refine guard_none (by rfl) ?_
          go_simp
          exact hK _ _ (hR.mark (by decide) (by decide) (Below.refl _ _) rfl)
        · intro b0 us wz L hslot hoth hLi hR hcl hdo K hK
          have s19 : b0.tmps.getD 19 undef = .tuple #[amt ra rb rc, .bool false] := (hslot 7 19 (by rfl)).trans (hR.vals 7 (done_at hdo 7 (by rfl)) (by decide))
          clear hslot hoth hdo hcl hLi
          refine guard_none (by rfl) ?_
          go_simp
          exact hK _ _ (hR.mark (by decide) (by decide) (Below.refl _ _) rfl)
        · intro b0 us wz L hslot hoth hLi hR hcl hdo K hK
          have s19 : b0.tmps.getD 19 undef = .tuple #[amt ra rb rc, .bool false] := (hslot 7 19 (by rfl)).trans (hR.vals 7 (done_at hdo 7 (by rfl)) (by decide))
          clear hslot hoth hdo hcl hLi
          refine guard_none (by rfl) ?_
          go_simp
          exact hK _ _ (hR.mark (by decide) (by decide) (Below.refl _ _) rfl)
        · intro b0 us wz L hslot hoth hLi hR hcl hdo K hK
          have hs : L 11 = false := by
            cases h : L 11 with
            | false => rfl
            | true => rw [done_at (hcl 11 _ rfl h) 10 (by rfl)] at hLi; cases hLi
          clear hslot hoth hdo hcl hLi
          refine guard_none (by rfl) ?_
          go_simp
          exact hK _ _ (hR.new (by decide) hs)
        · intro b0 us wz L hslot hoth hLi hR hcl hdo K hK
          have da := done_at hdo 10 (by rfl)
          obtain ⟨gb, p_, q_, r_, hu, hge, hbx, _⟩ := hR.box da
          have s7 : b0.tmps.getD 7 undef = .pointer (some ⟨gb, 0, none⟩) := (hslot 10 7 (by rfl)).trans hu
          have s27 : b0.tmps.getD 27 undef = amt ra rb rc := (hslot 8 27 (by rfl)).trans (hR.vals 8 (done_at hdo 8 (by rfl)) (by decide))
          have k0 := hbx.c0
          have k1 := hbx.c1
          have k2 := hbx.c2
          have f0 := hbx.f0 0
          have f1 := hbx.f0 1
          have f2 := hbx.f0 2
          clear hslot hoth hdo hcl hLi
          refine guard_none (by rfl) ?_
          go_simp
          exact hK undef _ (hR.put (by decide) rfl da hu)
        · intro b0 us wz L hslot hoth hLi hR hcl hdo K hK
          have s28 : b0.tmps.getD 28 undef = .bool false := (hslot 9 28 (by rfl)).trans (hR.vals 9 (done_at hdo 9 (by rfl)) (by decide))
          clear hslot hoth hdo hcl hLi
          refine guard_none (by rfl) ?_
          go_simp
          exact hK _ _ (hR.mark (by decide) (by decide) (Below.refl _ _) rfl)
      · intro us wn L hall hR a' ha'
        have g0 : us 0 = .slice (some ⟨g, 0, none⟩) n cap := hR.vals 0 (hall 0 (by decide)) (by decide)
        have g1 : us 1 = .int .i64 (m : Int) := hR.vals 1 (hall 1 (by decide)) (by decide)
        have g2 : us 2 = .pointer (some ⟨g, m * 5, none⟩) := hR.vals 2 (hall 2 (by decide)) (by decide)
        have g3 : us 3 = .pointer (some ⟨g, m * 5 + 2, none⟩) := hR.vals 3 (hall 3 (by decide)) (by decide)
        have g4 : us 4 = amt ra rb rc := hR.vals 4 (hall 4 (by decide)) (by decide)
        have g5 : us 5 = amt a b c := hR.vals 5 (hall 5 (by decide)) (by decide)
        have g6 : us 6 = .tuple #[amt ra rb rc, .bool false] := hR.vals 6 (hall 6 (by decide)) (by decide)
        have g7 : us 7 = .tuple #[amt ra rb rc, .bool false] := hR.vals 7 (hall 7 (by decide)) (by decide)
        have g8 : us 8 = amt ra rb rc := hR.vals 8 (hall 8 (by decide)) (by decide)
        have g9 : us 9 = .bool false := hR.vals 9 (hall 9 (by decide)) (by decide)
        have g12 : us 12 = .bool false := hR.vals 12 (hall 12 (by decide)) (by decide)
        obtain ⟨gb, p_, q_, r_, g10, hge, hbx, hfill⟩ := hR.box (hall 10 (by decide))
        obtain ⟨h1_, h2_, h3_⟩ := hfill (hall 11 (by decide))
        rw [h1_, h2_, h3_] at hbx
        clear h1_ h2_ h3_ hfill
        have HBN : Hid (Below w1.heap.size w1 wn) := hR.below
        clear hbx hge
        clear hR hall
        simp only [putAll, g0, g1, g2, g3, g4, g5, g6, g7, g8, g9, g10, g12] at ha'
        subst ha'
        go_frame
        have HB2 := hid_of (below_more HB1.out HBN.out)
        clear HBN HX2 HX1 CA HT2 HB1
        have kg := HSE.out _ HB2.out
        go_wp2
        go_returns
        exact ⟨rfl, HB2.out⟩

set_option maxRecDepth 100000 in
set_option maxHeartbeats 4000000 in
theorem implPay_yes (g n cap : Nat) (ts : List Re) (rs : List Value) (i0 a b c : Int) (w : World) (ht : TreeIn w g ts rs) (hn : n = ts.length) (hcap : ts.length ≤ cap) (hl : ts.length ≤ 1048576) (hp : payOk ts i0 a b c = true) :
    Calls Tryd.prog 53 #[.slice (some ⟨g, 0, none⟩) n cap, .int .i64 i0, amt a b c] w fun e w' => e = .returned .nilIface ∧ TreeIn w' g (payT ts i0 a b c) rs ∧ w.grownBy w' (some g) := by
  have hb0 : Below w.heap.size w (w.alloc (boxA a b c)) := below_alloc w _
  have HCO : Hid (∀ w', Below w.heap.size w w' → Calls Tryd.prog 55 #[.slice (some ⟨g, 0, none⟩) n cap] w' fun e w'' => e = .returned (.bool (treeOk ts)) ∧ Below w'.heap.size w' w'') := fun w' hb => implTreeOk_any _ ts w' (by rw [hn]; exact (ht.keep hb).tree cap hcap) hl
  have HCL : Hid (∀ w', Below w.heap.size w w' → Calls Tryd.prog 51 #[.slice (some ⟨g, 0, none⟩) n cap, .int .i64 i0] w' fun e w'' => e = .returned (.bool (livePl ts i0)) ∧ w' = w'') := fun w' hb => implLive_any _ ts i0 w' (by rw [hn]; exact (ht.keep hb).tree cap hcap) hl
  have HX0 : Hid (Box3 (w.alloc (boxA a b c)) w.heap.size 37 a b c) := ⟨heap_alloc_new w _⟩
  have HB0 : Hid (Below w.heap.size w (w.alloc (boxA a b c))) := hb0
  have HT : Hid (∀ w', Below w.heap.size w w' → TreeIn w' g ts rs) := fun w' hb => ht.keep hb
  have hlive : liveIn ts i0 = true := by simp only [payOk, Bool.and_eq_true] at hp; exact hp.1
  have hok : treeOk ts = true := by simp [liveIn] at hlive; exact hlive.1.1
  have hf : fitsIn a b c (reAt ts i0.toNat).a (reAt ts i0.toNat).b (reAt ts i0.toNat).c = true := by simp only [payOk, Bool.and_eq_true] at hp; exact hp.2
  rw [hok] at HCO
  rw [live_eq hok, hlive] at HCL
  obtain ⟨m, rfl, hm⟩ : ∃ m : Nat, i0 = (m : Int) ∧ m < 5 := by
    unfold liveIn at hlive; simp at hlive
    exact ⟨i0.toNat, by omega, by omega⟩
  simp only [Int.toNat_natCast] at hf
  have h5 := treeOk_five hok
  have HM : Hid (m < ts.length) := by show _ < _; omega
  have hmn : (m : Int) < (n : Int) := by omega
  have hmn2 : m < n := by omega
  have hnc : n ≤ cap := by omega
  obtain ⟨r, hr⟩ : ∃ r, reAt ts m = r := ⟨_, rfl⟩
  have HR : Hid (reAt ts m = r) := hr
  have hpt : payT ts (m : Int) a b c = ts.set m ⟨r.live, r.par, r.a - a, r.b - b, r.c - c⟩ := by simp [payT, hr]
  rw [hpt]
  rw [hr] at hf
  obtain ⟨l, p1, ra, rb, rc⟩ := r
  simp only at hf ⊢
  have CA := fun w => implSub_yes ra rb rc a b c w hf
  obtain ⟨xa, hxa⟩ : ∃ x, x = ra - a := ⟨_, rfl⟩
  obtain ⟨xb, hxb⟩ : ∃ x, x = rb - b := ⟨_, rfl⟩
  obtain ⟨xc, hxc⟩ : ∃ x, x = rc - c := ⟨_, rfl⟩
  rw [← hxa, ← hxb, ← hxc] at CA ⊢
  have HGW : Hid (g < w.heap.size) := lt_of_block ht
  clear hp hok ht hcap hl hb0 hlive h5 hr hf hm hpt hxa hxb hxc hn
  go_enter Tryd.func53, Tryd.ntmps53
  go_wp2_with fail
  refine (HCO.out _ HB0.out).mono ?_
  rintro e w1 ⟨rfl, hb⟩
  have HB1 := hid_of (below_more HB0.out hb)
  have HX1 := hid_of (box_on HX0.out hb)
  clear hb HCO HX0 HB0
  go_wp2_with fail
  refine (HCL.out w1 HB1.out).mono ?_
  rintro e w2 ⟨rfl, hw2⟩
  subst hw2
  clear HCL
  have HT2 := hid_of (HT.out w1 HB1.out)
  have HX2 := HX1
  go_wp2_with fail
  refine wp_region_whole (by kernel_rfl) (by kernel_rfl) (by kernel_rfl) (by kernel_rfl) (AnsR w1 10 11 [.slice (some ⟨g, 0, none⟩) n cap, .int .i64 (m : Int), .pointer (some ⟨g, m * 5, none⟩), .pointer (some ⟨g, m * 5 + 2, none⟩), amt ra rb rc, amt a b c, .tuple #[amt xa xb xc, .bool true], .tuple #[amt xa xb xc, .bool true], amt xa xb xc, .bool true, undef, undef, .bool true] xa xb xc) (ansR_start w1 10 11 _ _ _ _) ?_ ?_
  · refine ⟨?_, ?_, ?_, ?_, ?_, ?_, ?_, ?_, ?_, ?_, ?_, ?_, ?_, trivial⟩
    · intro b0 us wz L hslot hoth hLi hR hcl hdo K hK
      have s0 : b0.tmps.getD 0 undef = .slice (some ⟨g, 0, none⟩) n cap := hoth 0 (by rfl)
      clear hslot hoth hdo hcl hLi
      refine guard_none (by rfl) ?_
      go_simp
      exact hK _ _ (hR.mark (by decide) (by decide) (Below.refl _ _) rfl)
    · intro b0 us wz L hslot hoth hLi hR hcl hdo K hK
      have s1 : b0.tmps.getD 1 undef = .int .i64 (m : Int) := hoth 1 (by rfl)
      clear hslot hoth hdo hcl hLi
      refine guard_none (by rfl) ?_
      go_simp
      exact hK _ _ (hR.mark (by decide) (by decide) (Below.refl _ _) rfl)
    · intro b0 us wz L hslot hoth hLi hR hcl hdo K hK
      have s20 : b0.tmps.getD 20 undef = .slice (some ⟨g, 0, none⟩) n cap := (hslot 0 20 (by rfl)).trans (hR.vals 0 (done_at hdo 0 (by rfl)) (by decide))
      have s21 : b0.tmps.getD 21 undef = .int .i64 (m : Int) := (hslot 1 21 (by rfl)).trans (hR.vals 1 (done_at hdo 1 (by rfl)) (by decide))
      clear hslot hoth hdo hcl hLi
      refine guard_none (by rfl) ?_
      go_simp
      exact hK _ _ (hR.mark (by decide) (by decide) (Below.refl _ _) rfl)
    · intro b0 us wz L hslot hoth hLi hR hcl hdo K hK
      have s22 : b0.tmps.getD 22 undef = .pointer (some ⟨g, m * 5, none⟩) := (hslot 2 22 (by rfl)).trans (hR.vals 2 (done_at hdo 2 (by rfl)) (by decide))
      clear hslot hoth hdo hcl hLi
      refine guard_none (by rfl) ?_
      go_simp
      exact hK _ _ (hR.mark (by decide) (by decide) (Below.refl _ _) rfl)
    · intro b0 us wz L hslot hoth hLi hR hcl hdo K hK
      have s23 : b0.tmps.getD 23 undef = .pointer (some ⟨g, m * 5 + 2, none⟩) := (hslot 3 23 (by rfl)).trans (hR.vals 3 (done_at hdo 3 (by rfl)) (by decide))
      have d := (HT2.out.keep hR.below).cell m HM.out
      rw [HR.out] at d
      have k2 := d.c2
      have k3 := d.c3
      have k4 := d.c4
      simp only at k2 k3 k4
      clear d
      clear hslot hoth hdo hcl hLi
      refine guard_none (by rfl) ?_
      go_simp
      exact hK _ _ (hR.mark (by decide) (by decide) (Below.refl _ _) rfl)
    · intro b0 us wz L hslot hoth hLi hR hcl hdo K hK
      have s5 : b0.tmps.getD 5 undef = .pointer (some ⟨w.heap.size, 0, none⟩) := hoth 5 (by rfl)
      have bb := box_on HX2.out hR.below
      have k0 := bb.c0
      have k1 := bb.c1
      have k2 := bb.c2
      clear bb
      clear hslot hoth hdo hcl hLi
      refine guard_none (by rfl) ?_
      go_simp
      exact hK _ _ (hR.mark (by decide) (by decide) (Below.refl _ _) rfl)
    · intro b0 us wz L hslot hoth hLi hR hcl hdo K hK
      have s24 : b0.tmps.getD 24 undef = amt ra rb rc := (hslot 4 24 (by rfl)).trans (hR.vals 4 (done_at hdo 4 (by rfl)) (by decide))
      have s25 : b0.tmps.getD 25 undef = amt a b c := (hslot 5 25 (by rfl)).trans (hR.vals 5 (done_at hdo 5 (by rfl)) (by decide))
      clear hslot hoth hdo hcl hLi
      refine guard_none (by rfl) ?_
      go_simp
      refine (CA wz).mono ?_
      rintro e w' ⟨rfl, hb⟩
      exact hK _ _ (hR.mark (by decide) (by decide) hb rfl)
    · intro b0 us wz L hslot hoth hLi hR hcl hdo K hK
      have s26 : b0.tmps.getD 26 undef = .tuple #[amt xa xb xc, .bool true] := (hslot 6 26 (by rfl)).trans (hR.vals 6 (done_at hdo 6 (by rfl)) (by decide))
      clear hslot hoth hdo hcl hLi
      refine guard_none (by rfl) ?_
      go_simp
      exact hK _ _ (hR.mark (by decide) (by decide) (Below.refl _ _) rfl)
    · intro b0 us wz L hslot hoth hLi hR hcl hdo K hK
      have s19 : b0.tmps.getD 19 undef = .tuple #[amt xa xb xc, .bool true] := (hslot 7 19 (by rfl)).trans (hR.vals 7 (done_at hdo 7 (by rfl)) (by decide))
      clear hslot hoth hdo hcl hLi
      refine guard_none (by rfl) ?_
      go_simp
      exact hK _ _ (hR.mark (by decide) (by decide) (Below.refl _ _) rfl)
    · intro b0 us wz L hslot hoth hLi hR hcl hdo K hK
      have s19 : b0.tmps.getD 19 undef = .tuple #[amt xa xb xc, .bool true] := (hslot 7 19 (by rfl)).trans (hR.vals 7 (done_at hdo 7 (by rfl)) (by decide))
      clear hslot hoth hdo hcl hLi
      refine guard_none (by rfl) ?_
      go_simp
      exact hK _ _ (hR.mark (by decide) (by decide) (Below.refl _ _) rfl)
    · intro b0 us wz L hslot hoth hLi hR hcl hdo K hK
      have hs : L 11 = false := by
        cases h : L 11 with
        | false => rfl
        | true => rw [done_at (hcl 11 _ rfl h) 10 (by rfl)] at hLi; cases hLi
      clear hslot hoth hdo hcl hLi
      refine guard_none (by rfl) ?_
      go_simp
      exact hK _ _ (hR.new (by decide) hs)
    · intro b0 us wz L hslot hoth hLi hR hcl hdo K hK
      have da := done_at hdo 10 (by rfl)
      obtain ⟨gb, p_, q_, r_, hu, hge, hbx, _⟩ := hR.box da
      have s7 : b0.tmps.getD 7 undef = .pointer (some ⟨gb, 0, none⟩) := (hslot 10 7 (by rfl)).trans hu
      have s27 : b0.tmps.getD 27 undef = amt xa xb xc := (hslot 8 27 (by rfl)).trans (hR.vals 8 (done_at hdo 8 (by rfl)) (by decide))
      have k0 := hbx.c0
      have k1 := hbx.c1
      have k2 := hbx.c2
      have f0 := hbx.f0 0
      have f1 := hbx.f0 1
      have f2 := hbx.f0 2
      clear hslot hoth hdo hcl hLi
      refine guard_none (by rfl) ?_
      go_simp
      exact hK undef _ (hR.put (by decide) rfl da hu)
    · intro b0 us wz L hslot hoth hLi hR hcl hdo K hK
      have s28 : b0.tmps.getD 28 undef = .bool true := (hslot 9 28 (by rfl)).trans (hR.vals 9 (done_at hdo 9 (by rfl)) (by decide))
      clear hslot hoth hdo hcl hLi
      refine guard_none (by rfl) ?_
      go_simp
      exact hK _ _ (hR.mark (by decide) (by decide) (Below.refl _ _) rfl)
  · intro us wn L hall hR a' ha'
    have g0 : us 0 = .slice (some ⟨g, 0, none⟩) n cap := hR.vals 0 (hall 0 (by decide)) (by decide)
    have g1 : us 1 = .int .i64 (m : Int) := hR.vals 1 (hall 1 (by decide)) (by decide)
    have g2 : us 2 = .pointer (some ⟨g, m * 5, none⟩) := hR.vals 2 (hall 2 (by decide)) (by decide)
    have g3 : us 3 = .pointer (some ⟨g, m * 5 + 2, none⟩) := hR.vals 3 (hall 3 (by decide)) (by decide)
    have g4 : us 4 = amt ra rb rc := hR.vals 4 (hall 4 (by decide)) (by decide)
    have g5 : us 5 = amt a b c := hR.vals 5 (hall 5 (by decide)) (by decide)
    have g6 : us 6 = .tuple #[amt xa xb xc, .bool true] := hR.vals 6 (hall 6 (by decide)) (by decide)
    have g7 : us 7 = .tuple #[amt xa xb xc, .bool true] := hR.vals 7 (hall 7 (by decide)) (by decide)
    have g8 : us 8 = amt xa xb xc := hR.vals 8 (hall 8 (by decide)) (by decide)
    have g9 : us 9 = .bool true := hR.vals 9 (hall 9 (by decide)) (by decide)
    have g12 : us 12 = .bool true := hR.vals 12 (hall 12 (by decide)) (by decide)
    obtain ⟨gb, p_, q_, r_, g10, hge, hbx, hfill⟩ := hR.box (hall 10 (by decide))
    obtain ⟨h1_, h2_, h3_⟩ := hfill (hall 11 (by decide))
    rw [h1_, h2_, h3_] at hbx
    clear h1_ h2_ h3_ hfill
    have HBN : Hid (Below w1.heap.size w1 wn) := hR.below
    have HBX : Hid (Box3 wn gb 37 xa xb xc) := hbx
    clear hge
    clear hR hall
    simp only [putAll, g0, g1, g2, g3, g4, g5, g6, g7, g8, g9, g10, g12] at ha'
    subst ha'
    go_frame
    have HB2 := hid_of (below_more HB1.out HBN.out)
    have HT3 := hid_of (HT.out wn HB2.out)
    clear HBN HX2 HX1 CA HT2 HB1 HT
    have d := HT3.out.cell m HM.out
    have d2 := d.c2
    have d3 := d.c3
    have d4 := d.c4
    have f2 := HT3.out.free (m * 5 + 2)
    have f3 := HT3.out.free (m * 5 + 3)
    have f4 := HT3.out.free (m * 5 + 4)
    have t3 := HT3.out.set3 m HM.out xa xb xc
    rw [HR.out] at t3 d2 d3 d4
    simp only at t3 d2 d3 d4
    have k0 := HBX.out.c0
    have k1 := HBX.out.c1
    have k2 := HBX.out.c2
    have HE := hid_of t3
    have HG : Hid (w.grownBy (((wn.setCell ⟨g, m * 5 + 2, none⟩ (.int .i64 xa)).setCell ⟨g, m * 5 + 3, none⟩ (.int .i64 xb)).setCell ⟨g, m * 5 + 4, none⟩ (.int .i64 xc)) (some g)) := grownBy_trans (grownBy_trans (grownBy_trans (grownBy_below (World.grownBy.refl _ _) HB2.out) (grownBy_set _ _ _ _)) (grownBy_set _ _ _ _)) (grownBy_set _ _ _ _)
    clear d t3 HT3 HBX HB2 HR
    go_wp2
    go_returns
    exact ⟨rfl, HE.out, HG.out⟩

theorem payOf_length (ts : List Re) (i a b c : Int) : (payOf ts i a b c).length = ts.length := by
  unfold payOf payT; split <;> simp
set_option maxHeartbeats 2000000 in
theorem implTreePay_any (p : Addr) (cap : Nat) (ts : List Re) (i0 a b c : Int) (w : World) (hx : IsTree w (.slice (some p) ts.length cap) ts) (hn : ts.length ≤ 1048576) (hse : Sent w) :
    Calls Tryd.prog 21 #[.slice (some p) ts.length cap, .int .i64 i0, amt a b c] w fun e w' => TreeAns ts.length (payOf ts i0 a b c) (payOk ts i0 a b c) w e w' := by
  obtain ⟨sa, hsa⟩ := hse.it
  have hb0 : Below w.heap.size w (w.alloc (boxA a b c)) := below_alloc w _
  have CC := implClone_any p ts.length cap ts (w.alloc (boxA a b c)) (hx.on hb0) rfl hn
  have HX0 : Hid (Box3 (w.alloc (boxA a b c)) w.heap.size 37 a b c) := ⟨heap_alloc_new w _⟩
  have HB0 : Hid (Below w.heap.size w (w.alloc (boxA a b c))) := hb0
  have HSE : Hid (∀ w', Below w.heap.size w w' → w'.cell? ⟨0, 0, none⟩ = some (.iface 114 (.pointer (some sa)))) := fun w' hb => (hb.cell (World.block_lt_of_cell? w _ hsa)).trans hsa
  have HN : Hid (ts.length ≤ 1048576) := hn
  clear hx hb0 hse hsa hn
  cases hp : payOk ts i0 a b c with
  | false =>
    have e2 : payOf ts i0 a b c = ts := by simp [payOf, hp]
    rw [e2]
    have HP := hid_of hp
    clear e2 hp
    go_enter Tryd.func21, Tryd.ntmps21
    go_wp2_with fail
    refine CC.mono ?_
    rintro e w1 ⟨g, c1', rs, rfl, ho, hb⟩
    have HB1 := hid_of (below_more HB0.out hb)
    have HO1 : Hid (OwnT g c1' ts rs w.heap.size w1.heap.size w1) := ho.lower HB0.out.size
    have HX1 := hid_of (box_on HX0.out hb)
    have k0 := HX1.out.c0
    have k1 := HX1.out.c1
    have k2 := HX1.out.c2
    clear CC hb ho HX0 HB0
    go_wp2_with fail
    refine (implPay_no g ts.length c1' ts rs i0 a b c sa w1 HO1.out.at' rfl HO1.out.cap HN.out (HSE.out w1 HB1.out) HP.out).mono ?_
    rintro e w2 ⟨rfl, hb⟩
    have HB2 := hid_of (below_more HB1.out hb)
    have HO2 := hid_of (HO1.out.on hb).more
    have kg := HSE.out w2 HB2.out
    clear hb HB1 HO1 HX1 k0 k1 k2
    go_wp2_with fail
    refine (is_same sa _).mono ?_
    rintro e w3 ⟨rfl, hw3⟩
    subst hw3
    go_wp2
    go_returns
    exact ⟨g, c1', rs, rfl, HO2.out, HB2.out⟩
  | true =>
    have e2 : payOf ts i0 a b c = payT ts i0 a b c := by simp [payOf, hp]
    rw [e2]
    have HP := hid_of hp
    clear e2 hp
    go_enter Tryd.func21, Tryd.ntmps21
    go_wp2_with fail
    refine CC.mono ?_
    rintro e w1 ⟨g, c1', rs, rfl, ho, hb⟩
    have HB1 := hid_of (below_more HB0.out hb)
    have HO1 : Hid (OwnT g c1' ts rs w.heap.size w1.heap.size w1) := ho.lower HB0.out.size
    have HX1 := hid_of (box_on HX0.out hb)
    have k0 := HX1.out.c0
    have k1 := HX1.out.c1
    have k2 := HX1.out.c2
    clear CC hb ho HX0 HB0
    go_wp2_with fail
    refine (implPay_yes g ts.length c1' ts rs i0 a b c w1 HO1.out.at' rfl HO1.out.cap HN.out HP.out).mono ?_
    rintro e w2 ⟨rfl, ht2, hg2⟩
    have HB2 : Hid (Below w.heap.size w w2) := HB1.out.grown hg2 HB1.out.size fun k e => by cases e; exact HO1.out.lo
    have HO2 : Hid (OwnT g c1' (payT ts i0 a b c) rs w.heap.size w2.heap.size w2) := ⟨ht2, by rw [payT_length]; exact HO1.out.cap, HO1.out.lo, lt_of_block ht2⟩
    have kg := HSE.out w2 HB2.out
    clear ht2 hg2 HB1 HO1 HX1 k0 k1 k2
    go_wp2_with fail
    refine (is_nil sa _).mono ?_
    rintro e w3 ⟨rfl, hw3⟩
    subst hw3
    go_wp2
    go_returns
    exact ⟨g, c1', rs, rfl, HO2.out, HB2.out⟩
end Go.Proofs.YtfcenombphodbaaDoor
