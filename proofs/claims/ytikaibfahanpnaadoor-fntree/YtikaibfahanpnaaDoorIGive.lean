/-
  The program's TreeGive.
-/
import Derived.Test.YtikaibfahanpnaaDoorMathGive
import Derived.Test.YtikaibfahanpnaaDoorIPay
namespace Go.Proofs.YtikaibfahanpnaaDoor
open Go.RowKit
set_option linter.unusedVariables false
set_option maxRecDepth 100000

theorem cell0_by {w w' : World} {g : Nat} {v : Value} (hg : w.grownBy w' (some g)) (h : w.cell? ⟨0, 0, none⟩ = some v) (hne : g ≠ 0) : w'.cell? ⟨0, 0, none⟩ = some v := by
  have hlt := World.block_lt_of_cell? w _ h
  have e := hg.block 0 hlt (fun e => hne (by cases e; rfl))
  rw [← h]
  simp [World.cell?, e]
theorem giveOk0_live {ts : List Re} {i k a b c : Int} (h : livePl ts k = false) : giveOk0 ts i k a b c = false := by
  cases hg : giveOk0 ts i k a b c with
  | false => rfl
  | true =>
    simp only [giveOk0, Bool.and_eq_true] at hg
    have hl := hg.1
    have hok : treeOk ts = true := by simp [liveIn] at hl; exact hl.1.1
    rw [← live_eq hok, h] at hl
    cases hl
theorem giveOk0_pay {ts : List Re} {i k a b c : Int} (h : payOk ts i a b c = false) : giveOk0 ts i k a b c = false := by simp [giveOk0, h]
theorem giveOk0_yes {ts : List Re} {i k a b c : Int} (h : payOk ts i a b c = true) (hl : livePl ts k = true) : giveOk0 ts i k a b c = true := by
  have hok : treeOk ts = true := by simp [payOk, liveIn] at h; exact h.1.1.1
  simp only [giveOk0, h, ← live_eq hok, hl, Bool.and_self]
set_option maxRecDepth 100000 in
set_option maxHeartbeats 8000000 in
theorem implGive_any (p : Addr) (cap : Nat) (ts : List Re) (i0 k0 a b c : Int) (w : World) (hx : IsTree w (.slice (some p) ts.length cap) ts) (hn : ts.length ≤ 1048576) (hse : Sent w) :
    Calls Tryd.prog 15 #[.slice (some p) ts.length cap, .int .i64 i0, .int .i64 k0, amt a b c] w fun e w' => TreeAns ts.length (giveOf ts i0 k0 a b c) (giveOk ts i0 k0 a b c) w e w' := by
  obtain ⟨sa, hsa⟩ := hse.it
  have hb0 : Below w.heap.size w (w.alloc (boxA a b c)) := below_alloc w _
  have CC := implClone_any p ts.length cap ts (w.alloc (boxA a b c)) (hx.on hb0) rfl hn
  have HX0 : Hid (Box3 (w.alloc (boxA a b c)) w.heap.size 26 a b c) := ⟨heap_alloc_new w _⟩
  have HB0 : Hid (Below w.heap.size w (w.alloc (boxA a b c))) := hb0
  have HSE : Hid (∀ w', Below w.heap.size w w' → w'.cell? ⟨0, 0, none⟩ = some (.iface 91 (.pointer (some sa)))) := fun w' hb => (hb.cell (World.block_lt_of_cell? w _ hsa)).trans hsa
  have HW0 : Hid (0 < w.heap.size) := World.block_lt_of_cell? w _ hsa
  have HN : Hid (ts.length ≤ 1048576) := hn
  clear hx hb0 hse hsa hn
  cases hlv : livePl ts k0 with
  | false =>
    have e0 := giveOk0_live (i := i0) (a := a) (b := b) (c := c) hlv
    have e2 : giveOf ts i0 k0 a b c = ts := by simp [giveOf, e0]
    rw [giveOk_no e0, e2]
    have HLV := hid_of hlv
    clear e0 e2 hlv
    go_enter Tryd.func15, Tryd.ntmps15
    go_wp2_with fail
    refine CC.mono ?_
    rintro e w1 ⟨g, c1', rs, rfl, ho, hb⟩
    have HB1 := hid_of (below_more HB0.out hb)
    have HO1 : Hid (OwnT g c1' ts rs w.heap.size w1.heap.size w1) := ho.lower HB0.out.size
    have HX1 := hid_of (box_on HX0.out hb)
    have HT1 := hid_of ho.at'
    have HSE1 := hid_of (HSE.out w1 HB1.out)
    have HNE : Hid (w.heap.size ≠ g) := by
      show _ ≠ _
      have := ho.lo
      simp at this
      omega
    have HG0 : Hid (g ≠ 0) := by
      show _ ≠ _
      have := HO1.out.lo
      have := HW0.out
      omega
    clear CC hb ho HX0 HB0
    have HCL : Hid (∀ w', TreeIn w' g ts rs → Calls Tryd.prog 30 #[.slice (some ⟨g, 0, none⟩) ts.length c1', .int .i64 k0] w' fun e w'' => e = .returned (.bool false) ∧ w' = w'') := fun w' h => by
      have := implLive_any _ ts k0 w' (h.tree c1' HO1.out.cap) HN.out
      rw [HLV.out] at this
      exact this
    go_wp2_with fail
    obtain ⟨gb, hgb⟩ : ∃ x, x = w.heap.size := ⟨_, rfl⟩
    have HLO : Hid (w.heap.size ≤ g) := HO1.out.lo
    have HCAP : Hid (ts.length ≤ c1') := HO1.out.cap
    rw [← hgb] at HX1 HNE ⊢
    clear hgb
    refine wp_region_whole (by kernel_rfl) (by kernel_rfl) (by kernel_rfl) (by kernel_rfl) (FlatL 99 (fun o wz => w1.grownBy wz (some g) ∧ Box3 wz gb 26 a b c ∧ TreeIn wz g ts rs ∧ wz.cell? ⟨0, 0, none⟩ = some (.iface 91 (.pointer (some sa)))) (gVals [.slice (some ⟨g, 0, none⟩) ts.length c1', .int .i64 k0, .bool false, .bool true, .bool true, undef, undef, undef, undef, undef, undef, .bool true])) (flatL_start ⟨grownBy_drew w1 _, box3_drew HX1.out, HT1.out.drew, HSE1.out⟩) ?_ ?_
    · refine ⟨?_, ?_, ?_, ?_, ?_, ?_, ?_, ?_, ?_, ?_, ?_, ?_, trivial⟩
      · intro b0 us wz L hslot hoth hLi hR hcl hdo K hK
        have s10 : b0.tmps.getD 10 undef = .slice (some ⟨g, 0, none⟩) ts.length c1' := hoth 10 (by rfl)
        clear hslot hoth hdo hcl hLi
        refine guard_none (by rfl) ?_
        go_simp
        exact hK _ _ (flatL_mark (by decide) (hR.1) (fun _ _ h => h) hR.2 rfl)
      · intro b0 us wz L hslot hoth hLi hR hcl hdo K hK
        have s2 : b0.tmps.getD 2 undef = .int .i64 k0 := hoth 2 (by rfl)
        clear hslot hoth hdo hcl hLi
        refine guard_none (by rfl) ?_
        go_simp
        exact hK _ _ (flatL_mark (by decide) (hR.1) (fun _ _ h => h) hR.2 rfl)
      · intro b0 us wz L hslot hoth hLi hR hcl hdo K hK
        have s13 : b0.tmps.getD 13 undef = .slice (some ⟨g, 0, none⟩) ts.length c1' := (hslot 0 13 (by rfl)).trans (hR.2 0 (done_at hdo 0 (by rfl)))
        have s14 : b0.tmps.getD 14 undef = .int .i64 k0 := (hslot 1 14 (by rfl)).trans (hR.2 1 (done_at hdo 1 (by rfl)))
        have ht := hR.1.2.2.1
        have CL := HCL.out wz ht
        clear ht
        clear hslot hoth hdo hcl hLi
        refine guard_none (by rfl) ?_
        go_simp
        refine CL.mono ?_
        rintro e w' ⟨rfl, hw'⟩
        subst hw'
        exact hK _ _ (flatL_mark (by decide) (hR.1) (fun _ _ h => h) hR.2 rfl)
      · intro b0 us wz L hslot hoth hLi hR hcl hdo K hK
        have s15 : b0.tmps.getD 15 undef = .bool false := (hslot 2 15 (by rfl)).trans (hR.2 2 (done_at hdo 2 (by rfl)))
        clear hslot hoth hdo hcl hLi
        refine guard_none (by rfl) ?_
        go_simp
        exact hK _ _ (flatL_mark (by decide) (hR.1) (fun _ _ h => h) hR.2 rfl)
      · intro b0 us wz L hslot hoth hLi hR hcl hdo K hK
        have s16 : b0.tmps.getD 16 undef = .bool true := (hslot 3 16 (by rfl)).trans (hR.2 3 (done_at hdo 3 (by rfl)))
        clear hslot hoth hdo hcl hLi
        refine guard_none (by rfl) ?_
        go_simp
        exact hK _ _ (flatL_mark (by decide) (hR.1) (fun _ _ h => h) hR.2 rfl)
      · intro b0 us wz L hslot hoth hLi hR hcl hdo K hK
        have gg : us 4 = .bool true := hR.2 4 (done_at hdo 4 (by rfl))
        refine guard_off (j := 4) (want := false) (d := 17) (by rfl) (by rfl) gg (by rfl) ?_
        exact hK undef _ (flatL_mark (by decide) (hR.1) (fun _ _ h => h) hR.2 rfl)
      · intro b0 us wz L hslot hoth hLi hR hcl hdo K hK
        have gg : us 4 = .bool true := hR.2 4 (done_at hdo 4 (by rfl))
        refine guard_off (j := 4) (want := false) (d := 17) (by rfl) (by rfl) gg (by rfl) ?_
        exact hK undef _ (flatL_mark (by decide) (hR.1) (fun _ _ h => h) hR.2 rfl)
      · intro b0 us wz L hslot hoth hLi hR hcl hdo K hK
        have gg : us 4 = .bool true := hR.2 4 (done_at hdo 4 (by rfl))
        refine guard_off (j := 4) (want := false) (d := 17) (by rfl) (by rfl) gg (by rfl) ?_
        exact hK undef _ (flatL_mark (by decide) (hR.1) (fun _ _ h => h) hR.2 rfl)
      · intro b0 us wz L hslot hoth hLi hR hcl hdo K hK
        have gg : us 4 = .bool true := hR.2 4 (done_at hdo 4 (by rfl))
        refine guard_off (j := 4) (want := false) (d := 17) (by rfl) (by rfl) gg (by rfl) ?_
        exact hK undef _ (flatL_mark (by decide) (hR.1) (fun _ _ h => h) hR.2 rfl)
      · intro b0 us wz L hslot hoth hLi hR hcl hdo K hK
        have gg : us 4 = .bool true := hR.2 4 (done_at hdo 4 (by rfl))
        refine guard_off (j := 4) (want := false) (d := 17) (by rfl) (by rfl) gg (by rfl) ?_
        exact hK undef _ (flatL_mark (by decide) (hR.1) (fun _ _ h => h) hR.2 rfl)
      · intro b0 us wz L hslot hoth hLi hR hcl hdo K hK
        have gg : us 4 = .bool true := hR.2 4 (done_at hdo 4 (by rfl))
        refine guard_off (j := 4) (want := false) (d := 17) (by rfl) (by rfl) gg (by rfl) ?_
        exact hK undef _ (flatL_mark (by decide) (hR.1) (fun _ _ h => h) hR.2 rfl)
      · intro b0 us wz L hslot hoth hLi hR hcl hdo K hK
        have s17 : b0.tmps.getD 17 undef = .bool true := (hslot 4 17 (by rfl)).trans (hR.2 4 (done_at hdo 4 (by rfl)))
        have s23 : b0.tmps.getD 23 undef = undef := (hslot 10 23 (by rfl)).trans (hR.2 10 (done_at hdo 10 (by rfl)))
        clear hslot hoth hdo hcl hLi
        refine guard_none (by rfl) ?_
        go_simp
        exact hK _ _ (flatL_mark (by decide) (hR.1) (fun _ _ h => h) hR.2 rfl)
    · intro us wn L hall hR a' ha'
      have g0 : us 0 = .slice (some ⟨g, 0, none⟩) ts.length c1' := hR.2 0 (hall 0 (by decide))
      have g1 : us 1 = .int .i64 k0 := hR.2 1 (hall 1 (by decide))
      have g2 : us 2 = .bool false := hR.2 2 (hall 2 (by decide))
      have g3 : us 3 = .bool true := hR.2 3 (hall 3 (by decide))
      have g4 : us 4 = .bool true := hR.2 4 (hall 4 (by decide))
      have g5 : us 5 = undef := hR.2 5 (hall 5 (by decide))
      have g6 : us 6 = undef := hR.2 6 (hall 6 (by decide))
      have g7 : us 7 = undef := hR.2 7 (hall 7 (by decide))
      have g8 : us 8 = undef := hR.2 8 (hall 8 (by decide))
      have g9 : us 9 = undef := hR.2 9 (hall 9 (by decide))
      have g10 : us 10 = undef := hR.2 10 (hall 10 (by decide))
      have g11 : us 11 = .bool true := hR.2 11 (hall 11 (by decide))
      have hE := hR.1
      have HE := hid_of hE
      clear hE
      clear hR hall
      simp only [putAll, g0, g1, g2, g3, g4, g5, g6, g7, g8, g9, g10, g11] at ha'
      subst ha'
      go_frame
      have HB2 : Hid (Below w.heap.size w wn) := HB1.out.grown HE.out.1 HB1.out.size fun k e => by cases e; exact HLO.out
      have HO2 : Hid (OwnT g c1' ts rs w.heap.size wn.heap.size wn) := ⟨HE.out.2.2.1, HCAP.out, HLO.out, lt_of_block HE.out.2.2.1⟩
      clear HE HB1 HO1 HX1 HT1 HSE1
      go_wp2
      go_returns
      exact ⟨g, c1', rs, rfl, HO2.out, HB2.out⟩
  | true =>
    cases hp : payOk ts i0 a b c with
    | false =>
      have e0 := giveOk0_pay (k := k0) hp
      have e2 : giveOf ts i0 k0 a b c = ts := by simp [giveOf, e0]
      rw [giveOk_no e0, e2]
      have HLV := hid_of hlv
      have HP := hid_of hp
      clear e0 e2 hlv hp
      go_enter Tryd.func15, Tryd.ntmps15
      go_wp2_with fail
      refine CC.mono ?_
      rintro e w1 ⟨g, c1', rs, rfl, ho, hb⟩
      have HB1 := hid_of (below_more HB0.out hb)
      have HO1 : Hid (OwnT g c1' ts rs w.heap.size w1.heap.size w1) := ho.lower HB0.out.size
      have HX1 := hid_of (box_on HX0.out hb)
      have HT1 := hid_of ho.at'
      have HSE1 := hid_of (HSE.out w1 HB1.out)
      have HNE : Hid (w.heap.size ≠ g) := by
        show _ ≠ _
        have := ho.lo
        simp at this
        omega
      have HG0 : Hid (g ≠ 0) := by
        show _ ≠ _
        have := HO1.out.lo
        have := HW0.out
        omega
      clear CC hb ho HX0 HB0
      have HCL : Hid (∀ w', TreeIn w' g ts rs → Calls Tryd.prog 30 #[.slice (some ⟨g, 0, none⟩) ts.length c1', .int .i64 k0] w' fun e w'' => e = .returned (.bool true) ∧ w' = w'') := fun w' h => by
        have := implLive_any _ ts k0 w' (h.tree c1' HO1.out.cap) HN.out
        rw [HLV.out] at this
        exact this
      have HPN : Hid (∀ w', TreeIn w' g ts rs → w'.cell? ⟨0, 0, none⟩ = some (.iface 91 (.pointer (some sa))) → Calls Tryd.prog 27 #[.slice (some ⟨g, 0, none⟩) ts.length c1', .int .i64 i0, amt a b c] w' fun e w'' => e = .returned (.iface 91 (.pointer (some sa))) ∧ Below w'.heap.size w' w'') := fun w' h1 h2 => implPay_no g ts.length c1' ts rs i0 a b c sa w' h1 rfl HO1.out.cap HN.out h2 HP.out
      obtain ⟨us1, hus1⟩ : ∃ u, u = ts := ⟨_, rfl⟩
      have HUS : Hid (ts = us1) := hus1.symm
      clear hus1
      go_wp2_with fail
      obtain ⟨gb, hgb⟩ : ∃ x, x = w.heap.size := ⟨_, rfl⟩
      have HLO : Hid (w.heap.size ≤ g) := HO1.out.lo
      have HCAP : Hid (ts.length ≤ c1') := HO1.out.cap
      rw [← hgb] at HX1 HNE ⊢
      clear hgb
      refine wp_region_whole (by kernel_rfl) (by kernel_rfl) (by kernel_rfl) (by kernel_rfl) (FlatL 8 (fun o wz => w1.grownBy wz (some g) ∧ Box3 wz gb 26 a b c ∧ TreeIn wz g (if o = true then us1 else ts) rs ∧ wz.cell? ⟨0, 0, none⟩ = some (.iface 91 (.pointer (some sa)))) (gVals [.slice (some ⟨g, 0, none⟩) ts.length c1', .int .i64 k0, .bool true, .bool false, .bool false, .slice (some ⟨g, 0, none⟩) ts.length c1', .int .i64 i0, amt a b c, .iface 91 (.pointer (some sa)), .iface 91 (.pointer (some sa)), .bool true, .bool true])) (flatL_start ⟨grownBy_drew w1 _, box3_drew HX1.out, by simpa using HT1.out.drew, HSE1.out⟩) ?_ ?_
      · refine ⟨?_, ?_, ?_, ?_, ?_, ?_, ?_, ?_, ?_, ?_, ?_, ?_, trivial⟩
        · intro b0 us wz L hslot hoth hLi hR hcl hdo K hK
          have s10 : b0.tmps.getD 10 undef = .slice (some ⟨g, 0, none⟩) ts.length c1' := hoth 10 (by rfl)
          clear hslot hoth hdo hcl hLi
          refine guard_none (by rfl) ?_
          go_simp
          exact hK _ _ (flatL_mark (by decide) (hR.1) (fun _ _ h => h) hR.2 rfl)
        · intro b0 us wz L hslot hoth hLi hR hcl hdo K hK
          have s2 : b0.tmps.getD 2 undef = .int .i64 k0 := hoth 2 (by rfl)
          clear hslot hoth hdo hcl hLi
          refine guard_none (by rfl) ?_
          go_simp
          exact hK _ _ (flatL_mark (by decide) (hR.1) (fun _ _ h => h) hR.2 rfl)
        · intro b0 us wz L hslot hoth hLi hR hcl hdo K hK
          have s13 : b0.tmps.getD 13 undef = .slice (some ⟨g, 0, none⟩) ts.length c1' := (hslot 0 13 (by rfl)).trans (hR.2 0 (done_at hdo 0 (by rfl)))
          have s14 : b0.tmps.getD 14 undef = .int .i64 k0 := (hslot 1 14 (by rfl)).trans (hR.2 1 (done_at hdo 1 (by rfl)))
          have h8 : L 8 = false := by
            cases h : L 8 with
            | false => rfl
            | true =>
              have h4 := done_at (hcl 8 _ rfl h) 4 (by rfl)
              have h3 := done_at (hcl 4 _ rfl h4) 3 (by rfl)
              rw [done_at (hcl 3 _ rfl h3) 2 (by rfl)] at hLi
              cases hLi
          have ht := hR.1.2.2.1
          rw [h8] at ht
          simp only [Bool.false_eq_true, if_false] at ht
          have CL := HCL.out wz ht
          clear ht
          clear hslot hoth hdo hcl hLi
          refine guard_none (by rfl) ?_
          go_simp
          refine CL.mono ?_
          rintro e w' ⟨rfl, hw'⟩
          subst hw'
          exact hK _ _ (flatL_mark (by decide) (hR.1) (fun _ _ h => h) hR.2 rfl)
        · intro b0 us wz L hslot hoth hLi hR hcl hdo K hK
          have s15 : b0.tmps.getD 15 undef = .bool true := (hslot 2 15 (by rfl)).trans (hR.2 2 (done_at hdo 2 (by rfl)))
          clear hslot hoth hdo hcl hLi
          refine guard_none (by rfl) ?_
          go_simp
          exact hK _ _ (flatL_mark (by decide) (hR.1) (fun _ _ h => h) hR.2 rfl)
        · intro b0 us wz L hslot hoth hLi hR hcl hdo K hK
          have s16 : b0.tmps.getD 16 undef = .bool false := (hslot 3 16 (by rfl)).trans (hR.2 3 (done_at hdo 3 (by rfl)))
          clear hslot hoth hdo hcl hLi
          refine guard_none (by rfl) ?_
          go_simp
          exact hK _ _ (flatL_mark (by decide) (hR.1) (fun _ _ h => h) hR.2 rfl)
        · intro b0 us wz L hslot hoth hLi hR hcl hdo K hK
          have gg : us 4 = .bool false := hR.2 4 (done_at hdo 4 (by rfl))
          have s10 : b0.tmps.getD 10 undef = .slice (some ⟨g, 0, none⟩) ts.length c1' := hoth 10 (by rfl)
          clear hslot hoth hdo hcl hLi
          refine guard_on (j := 4) (want := false) (d := 17) (by rfl) (by rfl) gg ?_
          go_simp
          exact hK _ _ (flatL_mark (by decide) (hR.1) (fun _ _ h => h) hR.2 rfl)
        · intro b0 us wz L hslot hoth hLi hR hcl hdo K hK
          have gg : us 4 = .bool false := hR.2 4 (done_at hdo 4 (by rfl))
          have s1 : b0.tmps.getD 1 undef = .int .i64 i0 := hoth 1 (by rfl)
          clear hslot hoth hdo hcl hLi
          refine guard_on (j := 4) (want := false) (d := 17) (by rfl) (by rfl) gg ?_
          go_simp
          exact hK _ _ (flatL_mark (by decide) (hR.1) (fun _ _ h => h) hR.2 rfl)
        · intro b0 us wz L hslot hoth hLi hR hcl hdo K hK
          have gg : us 4 = .bool false := hR.2 4 (done_at hdo 4 (by rfl))
          have s7 : b0.tmps.getD 7 undef = .pointer (some ⟨gb, 0, none⟩) := hoth 7 (by rfl)
          have k0 := hR.1.2.1.c0
          have k1 := hR.1.2.1.c1
          have k2 := hR.1.2.1.c2
          clear hslot hoth hdo hcl hLi
          refine guard_on (j := 4) (want := false) (d := 17) (by rfl) (by rfl) gg ?_
          go_simp
          exact hK _ _ (flatL_mark (by decide) (hR.1) (fun _ _ h => h) hR.2 rfl)
        · intro b0 us wz L hslot hoth hLi hR hcl hdo K hK
          have gg : us 4 = .bool false := hR.2 4 (done_at hdo 4 (by rfl))
          have s18 : b0.tmps.getD 18 undef = .slice (some ⟨g, 0, none⟩) ts.length c1' := (hslot 5 18 (by rfl)).trans (hR.2 5 (done_at hdo 5 (by rfl)))
          have s19 : b0.tmps.getD 19 undef = .int .i64 i0 := (hslot 6 19 (by rfl)).trans (hR.2 6 (done_at hdo 6 (by rfl)))
          have s20 : b0.tmps.getD 20 undef = amt a b c := (hslot 7 20 (by rfl)).trans (hR.2 7 (done_at hdo 7 (by rfl)))
          have h8 : L 8 = false := hLi
          have ht := hR.1.2.2.1
          rw [h8] at ht
          simp only [Bool.false_eq_true, if_false] at ht
          have HTT := hid_of ht
          clear ht
          clear hslot hoth hdo hcl hLi
          refine guard_on (j := 4) (want := false) (d := 17) (by rfl) (by rfl) gg ?_
          go_simp
          refine (HPN.out wz HTT.out hR.1.2.2.2).mono ?_
          rintro e w' ⟨rfl, hb⟩
          exact hK _ _ (flatL_last ⟨grownBy_below hR.1.1 hb, box_on hR.1.2.1 hb, by simp only [if_true]; exact HUS.out ▸ HTT.out.keep hb, (hb.cell (World.block_lt_of_cell? wz _ hR.1.2.2.2)).trans hR.1.2.2.2⟩ (fun _ _ h => h) hR.2 rfl)
        · intro b0 us wz L hslot hoth hLi hR hcl hdo K hK
          have gg : us 4 = .bool false := hR.2 4 (done_at hdo 4 (by rfl))
          have kg := hR.1.2.2.2
          clear hslot hoth hdo hcl hLi
          refine guard_on (j := 4) (want := false) (d := 17) (by rfl) (by rfl) gg ?_
          go_simp
          exact hK _ _ (flatL_mark (by decide) (hR.1) (fun _ _ h => h) hR.2 rfl)
        · intro b0 us wz L hslot hoth hLi hR hcl hdo K hK
          have gg : us 4 = .bool false := hR.2 4 (done_at hdo 4 (by rfl))
          have s21 : b0.tmps.getD 21 undef = .iface 91 (.pointer (some sa)) := (hslot 8 21 (by rfl)).trans (hR.2 8 (done_at hdo 8 (by rfl)))
          have s22 : b0.tmps.getD 22 undef = .iface 91 (.pointer (some sa)) := (hslot 9 22 (by rfl)).trans (hR.2 9 (done_at hdo 9 (by rfl)))
          clear hslot hoth hdo hcl hLi
          refine guard_on (j := 4) (want := false) (d := 17) (by rfl) (by rfl) gg ?_
          go_simp
          refine (is_same sa _).mono ?_
          rintro e w' ⟨rfl, hw'⟩
          subst hw'
          exact hK _ _ (flatL_mark (by decide) (hR.1) (fun _ _ h => h) hR.2 rfl)
        · intro b0 us wz L hslot hoth hLi hR hcl hdo K hK
          have s17 : b0.tmps.getD 17 undef = .bool false := (hslot 4 17 (by rfl)).trans (hR.2 4 (done_at hdo 4 (by rfl)))
          have s23 : b0.tmps.getD 23 undef = .bool true := (hslot 10 23 (by rfl)).trans (hR.2 10 (done_at hdo 10 (by rfl)))
          clear hslot hoth hdo hcl hLi
          refine guard_none (by rfl) ?_
          go_simp
          exact hK _ _ (flatL_mark (by decide) (hR.1) (fun _ _ h => h) hR.2 rfl)
      · intro us wn L hall hR a' ha'
        have g0 : us 0 = .slice (some ⟨g, 0, none⟩) ts.length c1' := hR.2 0 (hall 0 (by decide))
        have g1 : us 1 = .int .i64 k0 := hR.2 1 (hall 1 (by decide))
        have g2 : us 2 = .bool true := hR.2 2 (hall 2 (by decide))
        have g3 : us 3 = .bool false := hR.2 3 (hall 3 (by decide))
        have g4 : us 4 = .bool false := hR.2 4 (hall 4 (by decide))
        have g5 : us 5 = .slice (some ⟨g, 0, none⟩) ts.length c1' := hR.2 5 (hall 5 (by decide))
        have g6 : us 6 = .int .i64 i0 := hR.2 6 (hall 6 (by decide))
        have g7 : us 7 = amt a b c := hR.2 7 (hall 7 (by decide))
        have g8 : us 8 = .iface 91 (.pointer (some sa)) := hR.2 8 (hall 8 (by decide))
        have g9 : us 9 = .iface 91 (.pointer (some sa)) := hR.2 9 (hall 9 (by decide))
        have g10 : us 10 = .bool true := hR.2 10 (hall 10 (by decide))
        have g11 : us 11 = .bool true := hR.2 11 (hall 11 (by decide))
        have hE := hR.1
        rw [hall 8 (by decide)] at hE
        simp only [if_true] at hE
        have HE := hid_of hE
        clear hE
        clear hR hall
        simp only [putAll, g0, g1, g2, g3, g4, g5, g6, g7, g8, g9, g10, g11] at ha'
        subst ha'
        go_frame
        have HB2 : Hid (Below w.heap.size w wn) := HB1.out.grown HE.out.1 HB1.out.size fun k e => by cases e; exact HLO.out
        have HO2 : Hid (OwnT g c1' ts rs w.heap.size wn.heap.size wn) := ⟨HUS.out ▸ HE.out.2.2.1, HCAP.out, HLO.out, lt_of_block HE.out.2.2.1⟩
        clear HE HB1 HO1 HX1 HT1 HSE1
        go_wp2
        go_returns
        exact ⟨g, c1', rs, rfl, HO2.out, HB2.out⟩
    | true =>
      have e0 := giveOk0_yes hp hlv
      obtain ⟨m, rfl, hm, _⟩ := livePl_yes hlv
      obtain ⟨e2, hadd⟩ := give_at e0
      rw [giveOk_eq e0, e2]
      have HLV := hid_of hlv
      have HP := hid_of hp
      have hpl : (payT ts i0 a b c).length = ts.length := payT_length ts i0 a b c
      obtain ⟨us1, hus1⟩ : ∃ u, u = payT ts i0 a b c := ⟨_, rfl⟩
      have HUS : Hid (us1 = payT ts i0 a b c) := hus1
      rw [← hus1] at hadd hpl ⊢
      have HADD := hid_of hadd
      have HPL := hid_of hpl
      have HM := hid_of hm
      clear e0 e2 hlv hp hus1 hadd hpl hm
      go_enter Tryd.func15, Tryd.ntmps15
      go_wp2_with fail
      refine CC.mono ?_
      rintro e w1 ⟨g, c1', rs, rfl, ho, hb⟩
      have HB1 := hid_of (below_more HB0.out hb)
      have HO1 : Hid (OwnT g c1' ts rs w.heap.size w1.heap.size w1) := ho.lower HB0.out.size
      have HX1 := hid_of (box_on HX0.out hb)
      have HT1 := hid_of ho.at'
      have HSE1 := hid_of (HSE.out w1 HB1.out)
      have HNE : Hid (w.heap.size ≠ g) := by
        show _ ≠ _
        have := ho.lo
        simp at this
        omega
      have HG0 : Hid (g ≠ 0) := by
        show _ ≠ _
        have := HO1.out.lo
        have := HW0.out
        omega
      clear CC hb ho HX0 HB0
      have HCL : Hid (∀ w', TreeIn w' g ts rs → Calls Tryd.prog 30 #[.slice (some ⟨g, 0, none⟩) ts.length c1', .int .i64 (m : Int)] w' fun e w'' => e = .returned (.bool true) ∧ w' = w'') := fun w' h => by
        have := implLive_any _ ts (m : Int) w' (h.tree c1' HO1.out.cap) HN.out
        rw [HLV.out] at this
        exact this
      have HPY : Hid (∀ w', TreeIn w' g ts rs → Calls Tryd.prog 27 #[.slice (some ⟨g, 0, none⟩) ts.length c1', .int .i64 i0, amt a b c] w' fun e w'' => e = .returned .nilIface ∧ TreeIn w'' g us1 rs ∧ w'.grownBy w'' (some g)) := fun w' h1 => by
        have := implPay_yes g ts.length c1' ts rs i0 a b c w' h1 rfl HO1.out.cap HN.out HP.out
        rw [HUS.out]
        exact this
      go_wp2_with fail
      obtain ⟨gb, hgb⟩ : ∃ x, x = w.heap.size := ⟨_, rfl⟩
      have HLO : Hid (w.heap.size ≤ g) := HO1.out.lo
      have HCAP : Hid (ts.length ≤ c1') := HO1.out.cap
      rw [← hgb] at HX1 HNE ⊢
      clear hgb
      refine wp_region_whole (by kernel_rfl) (by kernel_rfl) (by kernel_rfl) (by kernel_rfl) (FlatL 8 (fun o wz => w1.grownBy wz (some g) ∧ Box3 wz gb 26 a b c ∧ TreeIn wz g (if o = true then us1 else ts) rs ∧ wz.cell? ⟨0, 0, none⟩ = some (.iface 91 (.pointer (some sa)))) (gVals [.slice (some ⟨g, 0, none⟩) ts.length c1', .int .i64 (m : Int), .bool true, .bool false, .bool false, .slice (some ⟨g, 0, none⟩) ts.length c1', .int .i64 i0, amt a b c, .nilIface, .iface 91 (.pointer (some sa)), .bool false, .bool false])) (flatL_start ⟨grownBy_drew w1 _, box3_drew HX1.out, by simpa using HT1.out.drew, HSE1.out⟩) ?_ ?_
      · refine ⟨?_, ?_, ?_, ?_, ?_, ?_, ?_, ?_, ?_, ?_, ?_, ?_, trivial⟩
        · intro b0 us wz L hslot hoth hLi hR hcl hdo K hK
          have s10 : b0.tmps.getD 10 undef = .slice (some ⟨g, 0, none⟩) ts.length c1' := hoth 10 (by rfl)
          clear hslot hoth hdo hcl hLi
          refine guard_none (by rfl) ?_
          go_simp
          exact hK _ _ (flatL_mark (by decide) (hR.1) (fun _ _ h => h) hR.2 rfl)
        · intro b0 us wz L hslot hoth hLi hR hcl hdo K hK
          have s2 : b0.tmps.getD 2 undef = .int .i64 (m : Int) := hoth 2 (by rfl)
          clear hslot hoth hdo hcl hLi
          refine guard_none (by rfl) ?_
          go_simp
          exact hK _ _ (flatL_mark (by decide) (hR.1) (fun _ _ h => h) hR.2 rfl)
        · intro b0 us wz L hslot hoth hLi hR hcl hdo K hK
          have s13 : b0.tmps.getD 13 undef = .slice (some ⟨g, 0, none⟩) ts.length c1' := (hslot 0 13 (by rfl)).trans (hR.2 0 (done_at hdo 0 (by rfl)))
          have s14 : b0.tmps.getD 14 undef = .int .i64 (m : Int) := (hslot 1 14 (by rfl)).trans (hR.2 1 (done_at hdo 1 (by rfl)))
          have h8 : L 8 = false := by
            cases h : L 8 with
            | false => rfl
            | true =>
              have h4 := done_at (hcl 8 _ rfl h) 4 (by rfl)
              have h3 := done_at (hcl 4 _ rfl h4) 3 (by rfl)
              rw [done_at (hcl 3 _ rfl h3) 2 (by rfl)] at hLi
              cases hLi
          have ht := hR.1.2.2.1
          rw [h8] at ht
          simp only [Bool.false_eq_true, if_false] at ht
          have CL := HCL.out wz ht
          clear ht
          clear hslot hoth hdo hcl hLi
          refine guard_none (by rfl) ?_
          go_simp
          refine CL.mono ?_
          rintro e w' ⟨rfl, hw'⟩
          subst hw'
          exact hK _ _ (flatL_mark (by decide) (hR.1) (fun _ _ h => h) hR.2 rfl)
        · intro b0 us wz L hslot hoth hLi hR hcl hdo K hK
          have s15 : b0.tmps.getD 15 undef = .bool true := (hslot 2 15 (by rfl)).trans (hR.2 2 (done_at hdo 2 (by rfl)))
          clear hslot hoth hdo hcl hLi
          refine guard_none (by rfl) ?_
          go_simp
          exact hK _ _ (flatL_mark (by decide) (hR.1) (fun _ _ h => h) hR.2 rfl)
        · intro b0 us wz L hslot hoth hLi hR hcl hdo K hK
          have s16 : b0.tmps.getD 16 undef = .bool false := (hslot 3 16 (by rfl)).trans (hR.2 3 (done_at hdo 3 (by rfl)))
          clear hslot hoth hdo hcl hLi
          refine guard_none (by rfl) ?_
          go_simp
          exact hK _ _ (flatL_mark (by decide) (hR.1) (fun _ _ h => h) hR.2 rfl)
        · intro b0 us wz L hslot hoth hLi hR hcl hdo K hK
          have gg : us 4 = .bool false := hR.2 4 (done_at hdo 4 (by rfl))
          have s10 : b0.tmps.getD 10 undef = .slice (some ⟨g, 0, none⟩) ts.length c1' := hoth 10 (by rfl)
          clear hslot hoth hdo hcl hLi
          refine guard_on (j := 4) (want := false) (d := 17) (by rfl) (by rfl) gg ?_
          go_simp
          exact hK _ _ (flatL_mark (by decide) (hR.1) (fun _ _ h => h) hR.2 rfl)
        · intro b0 us wz L hslot hoth hLi hR hcl hdo K hK
          have gg : us 4 = .bool false := hR.2 4 (done_at hdo 4 (by rfl))
          have s1 : b0.tmps.getD 1 undef = .int .i64 i0 := hoth 1 (by rfl)
          clear hslot hoth hdo hcl hLi
          refine guard_on (j := 4) (want := false) (d := 17) (by rfl) (by rfl) gg ?_
          go_simp
          exact hK _ _ (flatL_mark (by decide) (hR.1) (fun _ _ h => h) hR.2 rfl)
        · intro b0 us wz L hslot hoth hLi hR hcl hdo K hK
          have gg : us 4 = .bool false := hR.2 4 (done_at hdo 4 (by rfl))
          have s7 : b0.tmps.getD 7 undef = .pointer (some ⟨gb, 0, none⟩) := hoth 7 (by rfl)
          have k0 := hR.1.2.1.c0
          have k1 := hR.1.2.1.c1
          have k2 := hR.1.2.1.c2
          clear hslot hoth hdo hcl hLi
          refine guard_on (j := 4) (want := false) (d := 17) (by rfl) (by rfl) gg ?_
          go_simp
          exact hK _ _ (flatL_mark (by decide) (hR.1) (fun _ _ h => h) hR.2 rfl)
        · intro b0 us wz L hslot hoth hLi hR hcl hdo K hK
          have gg : us 4 = .bool false := hR.2 4 (done_at hdo 4 (by rfl))
          have s18 : b0.tmps.getD 18 undef = .slice (some ⟨g, 0, none⟩) ts.length c1' := (hslot 5 18 (by rfl)).trans (hR.2 5 (done_at hdo 5 (by rfl)))
          have s19 : b0.tmps.getD 19 undef = .int .i64 i0 := (hslot 6 19 (by rfl)).trans (hR.2 6 (done_at hdo 6 (by rfl)))
          have s20 : b0.tmps.getD 20 undef = amt a b c := (hslot 7 20 (by rfl)).trans (hR.2 7 (done_at hdo 7 (by rfl)))
          have h8 : L 8 = false := hLi
          have ht := hR.1.2.2.1
          rw [h8] at ht
          simp only [Bool.false_eq_true, if_false] at ht
          have HTT := hid_of ht
          clear ht
          clear hslot hoth hdo hcl hLi
          refine guard_on (j := 4) (want := false) (d := 17) (by rfl) (by rfl) gg ?_
          go_simp
          refine (HPY.out wz HTT.out).mono ?_
          rintro e w' ⟨rfl, ht', hg'⟩
          exact hK _ _ (flatL_last ⟨grownBy_trans hR.1.1 hg', ⟨grown_kept hg' hR.1.2.1.at' (fun e => HNE.out (by cases e; rfl))⟩, by simp only [if_true]; exact ht', cell0_by hg' hR.1.2.2.2 HG0.out⟩ (fun _ _ h => h) hR.2 rfl)
        · intro b0 us wz L hslot hoth hLi hR hcl hdo K hK
          have gg : us 4 = .bool false := hR.2 4 (done_at hdo 4 (by rfl))
          have kg := hR.1.2.2.2
          clear hslot hoth hdo hcl hLi
          refine guard_on (j := 4) (want := false) (d := 17) (by rfl) (by rfl) gg ?_
          go_simp
          exact hK _ _ (flatL_mark (by decide) (hR.1) (fun _ _ h => h) hR.2 rfl)
        · intro b0 us wz L hslot hoth hLi hR hcl hdo K hK
          have gg : us 4 = .bool false := hR.2 4 (done_at hdo 4 (by rfl))
          have s21 : b0.tmps.getD 21 undef = .nilIface := (hslot 8 21 (by rfl)).trans (hR.2 8 (done_at hdo 8 (by rfl)))
          have s22 : b0.tmps.getD 22 undef = .iface 91 (.pointer (some sa)) := (hslot 9 22 (by rfl)).trans (hR.2 9 (done_at hdo 9 (by rfl)))
          clear hslot hoth hdo hcl hLi
          refine guard_on (j := 4) (want := false) (d := 17) (by rfl) (by rfl) gg ?_
          go_simp
          refine (is_nil sa _).mono ?_
          rintro e w' ⟨rfl, hw'⟩
          subst hw'
          exact hK _ _ (flatL_mark (by decide) (hR.1) (fun _ _ h => h) hR.2 rfl)
        · intro b0 us wz L hslot hoth hLi hR hcl hdo K hK
          have s17 : b0.tmps.getD 17 undef = .bool false := (hslot 4 17 (by rfl)).trans (hR.2 4 (done_at hdo 4 (by rfl)))
          have s23 : b0.tmps.getD 23 undef = .bool false := (hslot 10 23 (by rfl)).trans (hR.2 10 (done_at hdo 10 (by rfl)))
          clear hslot hoth hdo hcl hLi
          refine guard_none (by rfl) ?_
          go_simp
          exact hK _ _ (flatL_mark (by decide) (hR.1) (fun _ _ h => h) hR.2 rfl)
      · intro us wn L hall hR a' ha'
        have g0 : us 0 = .slice (some ⟨g, 0, none⟩) ts.length c1' := hR.2 0 (hall 0 (by decide))
        have g1 : us 1 = .int .i64 (m : Int) := hR.2 1 (hall 1 (by decide))
        have g2 : us 2 = .bool true := hR.2 2 (hall 2 (by decide))
        have g3 : us 3 = .bool false := hR.2 3 (hall 3 (by decide))
        have g4 : us 4 = .bool false := hR.2 4 (hall 4 (by decide))
        have g5 : us 5 = .slice (some ⟨g, 0, none⟩) ts.length c1' := hR.2 5 (hall 5 (by decide))
        have g6 : us 6 = .int .i64 i0 := hR.2 6 (hall 6 (by decide))
        have g7 : us 7 = amt a b c := hR.2 7 (hall 7 (by decide))
        have g8 : us 8 = .nilIface := hR.2 8 (hall 8 (by decide))
        have g9 : us 9 = .iface 91 (.pointer (some sa)) := hR.2 9 (hall 9 (by decide))
        have g10 : us 10 = .bool false := hR.2 10 (hall 10 (by decide))
        have g11 : us 11 = .bool false := hR.2 11 (hall 11 (by decide))
        have hE := hR.1
        rw [hall 8 (by decide)] at hE
        simp only [if_true] at hE
        have HE := hid_of hE
        clear hE
        clear hR hall
        simp only [putAll, g0, g1, g2, g3, g4, g5, g6, g7, g8, g9, g10, g11] at ha'
        subst ha'
        go_frame
        have HB2 : Hid (Below w.heap.size w wn) := HB1.out.grown HE.out.1 HB1.out.size fun k e => by cases e; exact HLO.out
        have k0 := HE.out.2.1.c0
        have k1 := HE.out.2.1.c1
        have k2 := HE.out.2.1.c2
        clear HB1 HO1 HX1 HT1 HSE1
        go_wp2_with fail
        refine (implBring_any g ts.length c1' us1 rs m a b c wn HE.out.2.2.1 HPL.out.symm (by rw [HPL.out]; exact HCAP.out) (by rw [HPL.out]; exact HM.out) (by rw [HPL.out]; exact HN.out) HADD.out).mono ?_
        rintro e w5 ⟨rfl, ht5, hg5⟩
        have HB5 : Hid (Below w.heap.size w w5) := HB2.out.grown hg5 HB2.out.size fun k e => by cases e; exact HLO.out
        have HO5 : Hid (OwnT g c1' (us1.set m (addR (reAt us1 m) a b c)) rs w.heap.size w5.heap.size w5) := ⟨ht5, by rw [List.length_set, HPL.out]; exact HCAP.out, HLO.out, lt_of_block ht5⟩
        clear HE ht5 hg5 HB2 k0 k1 k2
        go_wp2
        go_returns
        exact ⟨g, c1', rs, rfl, HO5.out, HB5.out⟩
end Go.Proofs.YtikaibfahanpnaaDoor
