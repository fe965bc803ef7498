/-
  The program's TreeSplit.
-/
import Derived.Test.YtikaibfahanpnaaDoorMathSplit
import Derived.Test.YtikaibfahanpnaaDoorIGive
namespace Go.Proofs.YtikaibfahanpnaaDoor
open Go.RowKit
set_option linter.unusedVariables false
set_option maxRecDepth 100000

theorem isFree_in (l : Bool) (p a b c : Int) (w : World) :
    Calls Tryd.prog 25 #[reV l p a b c] w fun e w' => e = .returned (.bool (!l)) ∧ Below w.heap.size w w' := by
  go_enter Tryd.func25, Tryd.ntmps25
  go_wp2
  go_ret
  exact ⟨rfl, by go_grown⟩
set_option maxHeartbeats 2000000 in
theorem index_yes (g n cap : Nat) (ts : List Re) (rs : List Value) (F : Nat) (w : World) (ht : TreeIn w g ts rs) (hn : n = ts.length) (hcap : ts.length ≤ cap) (hl : ts.length ≤ 1048576) (hf : FreeAt ts F) :
    Calls Tryd.prog 24 #[.slice (some ⟨g, 0, none⟩) n cap, (.func (.func 25) #[] #[])] w fun e w' => e = .returned (.int .i64 (F : Int)) ∧ Below w.heap.size w w' := by
  have HT : Hid (∀ w', Below w.heap.size w w' → TreeIn w' g ts rs) := fun w' hb => ht.keep hb
  have HF := hid_of hf
  have hFn : F < n := by have := hf.lt; omega
  have HNL : Hid (n = ts.length) := hn
  have hnc : (n : Int) ≤ (cap : Int) := by omega
  have hn6 : n ≤ 1048576 := by omega
  clear ht hf hn hcap hl
  go_enter Tryd.func24, Tryd.ntmps24
  go_wp2
  go_loopw [8] (fun i wr => ∃ k : Nat, k ≤ F ∧ i = .int .i64 k ∧ Hid (Below w.heap.size w wr)) (fun i _ => n - (intOf i).toNat)
  case atStart => exact ⟨0, Nat.zero_le _, rfl, hid_of (Below.refl _ _)⟩
  case round =>
    obtain ⟨k, hk, rfl, HB⟩ := hrel
    have hkn : k < n := by omega
    have hki : (k : Int) < (n : Int) := by omega
    have d := (HT.out wr HB.out).cell k (by have := HNL.out; omega)
    obtain ⟨c0, c1, c2, c3, c4⟩ := d
    by_cases hlt : k < F
    · rw [HF.out.before k hlt] at c0
      have C := isFree_in true (reAt ts k).par (reAt ts k).a (reAt ts k).b (reAt ts k).c wr
      generalize (reAt ts k).par = o1 at c1 C
      generalize (reAt ts k).a = o2 at c2 C
      generalize (reAt ts k).b = o3 at c3 C
      generalize (reAt ts k).c = o4 at c4 C
      go_wp2_with fail
      refine C.mono ?_
      rintro e w' ⟨rfl, hb⟩
      have HB' := hid_of (below_more HB.out hb)
      clear C hb c0 c1 c2 c3 c4
      go_wp2
      go_roundw
      case rel => exact ⟨k + 1, by omega, by go_num, HB'⟩
      case measure => simp [intOf]; omega
    · obtain rfl : k = F := by omega
      rw [HF.out.no] at c0
      have C := isFree_in false (reAt ts k).par (reAt ts k).a (reAt ts k).b (reAt ts k).c wr
      generalize (reAt ts k).par = o1 at c1 C
      generalize (reAt ts k).a = o2 at c2 C
      generalize (reAt ts k).b = o3 at c3 C
      generalize (reAt ts k).c = o4 at c4 C
      go_wp2_with fail
      refine C.mono ?_
      rintro e w' ⟨rfl, hb⟩
      have HB' := hid_of (below_more HB.out hb)
      clear C hb c0 c1 c2 c3 c4
      go_wp2
      go_ret
      exact ⟨rfl, HB'.out⟩
set_option maxHeartbeats 2000000 in
theorem index_no (g n cap : Nat) (ts : List Re) (rs : List Value) (w : World) (ht : TreeIn w g ts rs) (hn : n = ts.length) (hcap : ts.length ≤ cap) (hl : ts.length ≤ 1048576) (hf : NoFree ts) :
    Calls Tryd.prog 24 #[.slice (some ⟨g, 0, none⟩) n cap, (.func (.func 25) #[] #[])] w fun e w' => e = .returned (.int .i64 (-1)) ∧ Below w.heap.size w w' := by
  have HT : Hid (∀ w', Below w.heap.size w w' → TreeIn w' g ts rs) := fun w' hb => ht.keep hb
  have HF : Hid (NoFree ts) := hf
  have HNL : Hid (n = ts.length) := hn
  have hnc : (n : Int) ≤ (cap : Int) := by omega
  have hn6 : n ≤ 1048576 := by omega
  clear ht hf hn hcap hl
  go_enter Tryd.func24, Tryd.ntmps24
  go_wp2
  go_loopw [8] (fun i wr => ∃ k : Nat, k ≤ n ∧ i = .int .i64 k ∧ Hid (Below w.heap.size w wr)) (fun i _ => n - (intOf i).toNat)
  case atStart => exact ⟨0, Nat.zero_le _, rfl, hid_of (Below.refl _ _)⟩
  case round =>
    obtain ⟨k, hk, rfl, HB⟩ := hrel
    by_cases hlt : k < n
    · have hki : (k : Int) < (n : Int) := by omega
      have d := (HT.out wr HB.out).cell k (by have := HNL.out; omega)
      obtain ⟨c0, c1, c2, c3, c4⟩ := d
      rw [HF.out k (by have := HNL.out; omega)] at c0
      have C := isFree_in true (reAt ts k).par (reAt ts k).a (reAt ts k).b (reAt ts k).c wr
      generalize (reAt ts k).par = o1 at c1 C
      generalize (reAt ts k).a = o2 at c2 C
      generalize (reAt ts k).b = o3 at c3 C
      generalize (reAt ts k).c = o4 at c4 C
      go_wp2_with fail
      refine C.mono ?_
      rintro e w' ⟨rfl, hb⟩
      have HB' := hid_of (below_more HB.out hb)
      clear C hb c0 c1 c2 c3 c4
      go_wp2
      go_roundw
      case rel => exact ⟨k + 1, by omega, by go_num, HB'⟩
      case measure => simp [intOf]; omega
    · obtain rfl : k = n := by omega
      go_wp2
      go_ret
      exact ⟨rfl, HB.out⟩
set_option maxRecDepth 100000 in
set_option maxHeartbeats 8000000 in
theorem implSplit_any (p : Addr) (cap : Nat) (ts : List Re) (i0 a b c : Int) (w : World) (hx : IsTree w (.slice (some p) ts.length cap) ts) (hn : ts.length ≤ 1048576) (hse : Sent w) :
    Calls Tryd.prog 7 #[.slice (some p) ts.length cap, .int .i64 i0, amt a b c] w fun e w' => SplitAns ts.length (splitOf ts i0 a b c) (splitK ts i0 a b c) (splitOk ts i0 a b c) w e w' := by
  obtain ⟨sa, hsa⟩ := hse.it
  have hb0 : Below w.heap.size w (w.alloc (boxA a b c)) := below_alloc w _
  have CC := implClone_any p ts.length cap ts (w.alloc (boxA a b c)) (hx.on hb0) rfl hn
  have HX0 : Hid (Box3 (w.alloc (boxA a b c)) w.heap.size 26 a b c) := ⟨heap_alloc_new w _⟩
  have HB0 : Hid (Below w.heap.size w (w.alloc (boxA a b c))) := hb0
  have HSE : Hid (∀ w', Below w.heap.size w w' → w'.cell? ⟨0, 0, none⟩ = some (.iface 91 (.pointer (some sa)))) := fun w' hb => (hb.cell (World.block_lt_of_cell? w _ hsa)).trans hsa
  have HW0 : Hid (0 < w.heap.size) := World.block_lt_of_cell? w _ hsa
  have HN : Hid (ts.length ≤ 1048576) := hn
  clear hx hb0 hse hsa hn
  rcases free_or ts with ⟨hno, hfl⟩ | hf
  · have e1 : splitOk ts i0 a b c = false := by simp [splitOk, hfl]
    rw [e1, (split_no e1).1, (split_no e1).2]
    have HNO := hid_of hno
    clear e1 hfl hno
    go_enter Tryd.func7, Tryd.ntmps7
    go_wp2_with fail
    refine CC.mono ?_
    rintro e w1 ⟨g, c1', rs, rfl, ho, hb⟩
    have HB1 := hid_of (below_more HB0.out hb)
    have HO1 : Hid (OwnT g c1' ts rs w.heap.size w1.heap.size w1) := ho.lower HB0.out.size
    have HX1 := hid_of (box_on HX0.out hb)
    have HT1 := hid_of ho.at'
    have HSE1 := hid_of (HSE.out w1 HB1.out)
    have HNE : Hid (w.heap.size ≠ g) := by
      show _ ≠ _
      have := ho.lo
      simp at this
      omega
    have HG0 : Hid (g ≠ 0) := by
      show _ ≠ _
      have := HO1.out.lo
      have := HW0.out
      omega
    clear CC hb ho HX0 HB0
    have HCI : Hid (∀ w', TreeIn w' g ts rs → Calls Tryd.prog 24 #[.slice (some ⟨g, 0, none⟩) ts.length c1', (.func (.func 25) #[] #[])] w' fun e w'' => e = .returned (.int .i64 (-1)) ∧ Below w'.heap.size w' w'') := fun w' h => index_no g ts.length c1' ts rs w' h rfl HO1.out.cap HN.out HNO.out
    go_wp2_with fail
    refine (HCI.out w1 HT1.out).mono ?_
    rintro e wI ⟨rfl, hbI⟩
    have HBI := hid_of hbI
    replace HB1 := hid_of (below_more HB1.out hbI)
    replace HO1 := hid_of (HO1.out.on hbI).more
    replace HX1 := hid_of (box_on HX1.out hbI)
    replace HT1 := hid_of (HT1.out.keep hbI)
    replace HSE1 := hid_of (HSE.out wI HB1.out)
    clear hbI HCI HBI
    go_wp2_with fail
    obtain ⟨gb, hgb⟩ : ∃ x, x = w.heap.size := ⟨_, rfl⟩
    have HLO : Hid (w.heap.size ≤ g) := HO1.out.lo
    have HCAP : Hid (ts.length ≤ c1') := HO1.out.cap
    rw [← hgb] at HX1 HNE ⊢
    clear hgb
    refine wp_region_whole (by kernel_rfl) (by kernel_rfl) (by kernel_rfl) (by kernel_rfl) (FlatL 99 (fun o wz => wI.grownBy wz (some g) ∧ Box3 wz gb 26 a b c ∧ TreeIn wz g ts rs ∧ wz.cell? ⟨0, 0, none⟩ = some (.iface 91 (.pointer (some sa)))) (gVals [.int .i64 (-1), .bool true, .bool true, undef, undef, undef, undef, undef, undef, .bool true])) (flatL_start ⟨grownBy_drew wI _, box3_drew HX1.out, HT1.out.drew, HSE1.out⟩) ?_ ?_
    · refine ⟨?_, ?_, ?_, ?_, ?_, ?_, ?_, ?_, ?_, ?_, trivial⟩
      · intro b0 us wz L hslot hoth hLi hR hcl hdo K hK
        have s10 : b0.tmps.getD 10 undef = .int .i64 (-1) := hoth 10 (by rfl)
        clear hslot hoth hdo hcl hLi
        refine guard_none (by rfl) ?_
        go_simp
        exact hK _ _ (flatL_mark (by decide) (hR.1) (fun _ _ h => h) hR.2 rfl)
      · intro b0 us wz L hslot hoth hLi hR hcl hdo K hK
        have s15 : b0.tmps.getD 15 undef = .int .i64 (-1) := (hslot 0 15 (by rfl)).trans (hR.2 0 (done_at hdo 0 (by rfl)))
        clear hslot hoth hdo hcl hLi
        refine guard_none (by rfl) ?_
        go_simp
        exact hK _ _ (flatL_mark (by decide) (hR.1) (fun _ _ h => h) hR.2 rfl)
      · intro b0 us wz L hslot hoth hLi hR hcl hdo K hK
        have s16 : b0.tmps.getD 16 undef = .bool true := (hslot 1 16 (by rfl)).trans (hR.2 1 (done_at hdo 1 (by rfl)))
        clear hslot hoth hdo hcl hLi
        refine guard_none (by rfl) ?_
        go_simp
        exact hK _ _ (flatL_mark (by decide) (hR.1) (fun _ _ h => h) hR.2 rfl)
      · intro b0 us wz L hslot hoth hLi hR hcl hdo K hK
        have gg : us 2 = .bool true := hR.2 2 (done_at hdo 2 (by rfl))
        refine guard_off (j := 2) (want := false) (d := 17) (by rfl) (by rfl) gg (by rfl) ?_
        exact hK undef _ (flatL_mark (by decide) (hR.1) (fun _ _ h => h) hR.2 rfl)
      · intro b0 us wz L hslot hoth hLi hR hcl hdo K hK
        have gg : us 2 = .bool true := hR.2 2 (done_at hdo 2 (by rfl))
        refine guard_off (j := 2) (want := false) (d := 17) (by rfl) (by rfl) gg (by rfl) ?_
        exact hK undef _ (flatL_mark (by decide) (hR.1) (fun _ _ h => h) hR.2 rfl)
      · intro b0 us wz L hslot hoth hLi hR hcl hdo K hK
        have gg : us 2 = .bool true := hR.2 2 (done_at hdo 2 (by rfl))
        refine guard_off (j := 2) (want := false) (d := 17) (by rfl) (by rfl) gg (by rfl) ?_
        exact hK undef _ (flatL_mark (by decide) (hR.1) (fun _ _ h => h) hR.2 rfl)
      · intro b0 us wz L hslot hoth hLi hR hcl hdo K hK
        have gg : us 2 = .bool true := hR.2 2 (done_at hdo 2 (by rfl))
        refine guard_off (j := 2) (want := false) (d := 17) (by rfl) (by rfl) gg (by rfl) ?_
        exact hK undef _ (flatL_mark (by decide) (hR.1) (fun _ _ h => h) hR.2 rfl)
      · intro b0 us wz L hslot hoth hLi hR hcl hdo K hK
        have gg : us 2 = .bool true := hR.2 2 (done_at hdo 2 (by rfl))
        refine guard_off (j := 2) (want := false) (d := 17) (by rfl) (by rfl) gg (by rfl) ?_
        exact hK undef _ (flatL_mark (by decide) (hR.1) (fun _ _ h => h) hR.2 rfl)
      · intro b0 us wz L hslot hoth hLi hR hcl hdo K hK
        have gg : us 2 = .bool true := hR.2 2 (done_at hdo 2 (by rfl))
        refine guard_off (j := 2) (want := false) (d := 17) (by rfl) (by rfl) gg (by rfl) ?_
        exact hK undef _ (flatL_mark (by decide) (hR.1) (fun _ _ h => h) hR.2 rfl)
      · intro b0 us wz L hslot hoth hLi hR hcl hdo K hK
        have s17 : b0.tmps.getD 17 undef = .bool true := (hslot 2 17 (by rfl)).trans (hR.2 2 (done_at hdo 2 (by rfl)))
        have s23 : b0.tmps.getD 23 undef = undef := (hslot 8 23 (by rfl)).trans (hR.2 8 (done_at hdo 8 (by rfl)))
        clear hslot hoth hdo hcl hLi
        refine guard_none (by rfl) ?_
        go_simp
        exact hK _ _ (flatL_mark (by decide) (hR.1) (fun _ _ h => h) hR.2 rfl)
    · intro us wn L hall hR a' ha'
      have g0 : us 0 = .int .i64 (-1) := hR.2 0 (hall 0 (by decide))
      have g1 : us 1 = .bool true := hR.2 1 (hall 1 (by decide))
      have g2 : us 2 = .bool true := hR.2 2 (hall 2 (by decide))
      have g3 : us 3 = undef := hR.2 3 (hall 3 (by decide))
      have g4 : us 4 = undef := hR.2 4 (hall 4 (by decide))
      have g5 : us 5 = undef := hR.2 5 (hall 5 (by decide))
      have g6 : us 6 = undef := hR.2 6 (hall 6 (by decide))
      have g7 : us 7 = undef := hR.2 7 (hall 7 (by decide))
      have g8 : us 8 = undef := hR.2 8 (hall 8 (by decide))
      have g9 : us 9 = .bool true := hR.2 9 (hall 9 (by decide))
      have hE := hR.1
      have HE := hid_of hE
      clear hE
      clear hR hall
      simp only [putAll, g0, g1, g2, g3, g4, g5, g6, g7, g8, g9] at ha'
      subst ha'
      go_frame
      have HB2 : Hid (Below w.heap.size w wn) := HB1.out.grown HE.out.1 HB1.out.size fun k e => by cases e; exact HLO.out
      have HO2 : Hid (OwnT g c1' ts rs w.heap.size wn.heap.size wn) := ⟨HE.out.2.2.1, HCAP.out, HLO.out, lt_of_block HE.out.2.2.1⟩
      clear HE HB1 HO1 HX1 HT1 HSE1
      go_wp2
      go_returns
      exact ⟨g, c1', rs, rfl, HO2.out, HB2.out⟩
  · obtain ⟨F, hF⟩ : ∃ F, F = freeAt ts := ⟨_, rfl⟩
    cases hp : payOk ts i0 a b c with
    | false =>
      have e1 : splitOk ts i0 a b c = false := by simp [splitOk, hp]
      rw [e1, (split_no e1).1, (split_no e1).2]
      rw [← hF] at hf
      have HF := hid_of hf
      have HP := hid_of hp
      clear e1 hf hp hF
      go_enter Tryd.func7, Tryd.ntmps7
      go_wp2_with fail
      refine CC.mono ?_
      rintro e w1 ⟨g, c1', rs, rfl, ho, hb⟩
      have HB1 := hid_of (below_more HB0.out hb)
      have HO1 : Hid (OwnT g c1' ts rs w.heap.size w1.heap.size w1) := ho.lower HB0.out.size
      have HX1 := hid_of (box_on HX0.out hb)
      have HT1 := hid_of ho.at'
      have HSE1 := hid_of (HSE.out w1 HB1.out)
      have HNE : Hid (w.heap.size ≠ g) := by
        show _ ≠ _
        have := ho.lo
        simp at this
        omega
      have HG0 : Hid (g ≠ 0) := by
        show _ ≠ _
        have := HO1.out.lo
        have := HW0.out
        omega
      clear CC hb ho HX0 HB0
      have HCI : Hid (∀ w', TreeIn w' g ts rs → Calls Tryd.prog 24 #[.slice (some ⟨g, 0, none⟩) ts.length c1', (.func (.func 25) #[] #[])] w' fun e w'' => e = .returned (.int .i64 (F : Int)) ∧ Below w'.heap.size w' w'') := fun w' h => index_yes g ts.length c1' ts rs F w' h rfl HO1.out.cap HN.out HF.out
      have HPN : Hid (∀ w', TreeIn w' g ts rs → w'.cell? ⟨0, 0, none⟩ = some (.iface 91 (.pointer (some sa))) → Calls Tryd.prog 27 #[.slice (some ⟨g, 0, none⟩) ts.length c1', .int .i64 i0, amt a b c] w' fun e w'' => e = .returned (.iface 91 (.pointer (some sa))) ∧ Below w'.heap.size w' w'') := fun w' h1 h2 => implPay_no g ts.length c1' ts rs i0 a b c sa w' h1 rfl HO1.out.cap HN.out h2 HP.out
      obtain ⟨us1, hus1⟩ : ∃ u, u = ts := ⟨_, rfl⟩
      have HUS : Hid (ts = us1) := hus1.symm
      clear hus1
      go_wp2_with fail
      refine (HCI.out w1 HT1.out).mono ?_
      rintro e wI ⟨rfl, hbI⟩
      have HBI := hid_of hbI
      replace HB1 := hid_of (below_more HB1.out hbI)
      replace HO1 := hid_of (HO1.out.on hbI).more
      replace HX1 := hid_of (box_on HX1.out hbI)
      replace HT1 := hid_of (HT1.out.keep hbI)
      replace HSE1 := hid_of (HSE.out wI HB1.out)
      clear hbI HCI HBI
      go_wp2_with fail
      obtain ⟨gb, hgb⟩ : ∃ x, x = w.heap.size := ⟨_, rfl⟩
      have HLO : Hid (w.heap.size ≤ g) := HO1.out.lo
      have HCAP : Hid (ts.length ≤ c1') := HO1.out.cap
      rw [← hgb] at HX1 HNE ⊢
      clear hgb
      refine wp_region_whole (by kernel_rfl) (by kernel_rfl) (by kernel_rfl) (by kernel_rfl) (FlatL 6 (fun o wz => wI.grownBy wz (some g) ∧ Box3 wz gb 26 a b c ∧ TreeIn wz g (if o = true then us1 else ts) rs ∧ wz.cell? ⟨0, 0, none⟩ = some (.iface 91 (.pointer (some sa)))) (gVals [.int .i64 (F : Int), .bool false, .bool false, .slice (some ⟨g, 0, none⟩) ts.length c1', .int .i64 i0, amt a b c, .iface 91 (.pointer (some sa)), .iface 91 (.pointer (some sa)), .bool true, .bool true])) (flatL_start ⟨grownBy_drew wI _, box3_drew HX1.out, by simpa using HT1.out.drew, HSE1.out⟩) ?_ ?_
      · refine ⟨?_, ?_, ?_, ?_, ?_, ?_, ?_, ?_, ?_, ?_, trivial⟩
        · intro b0 us wz L hslot hoth hLi hR hcl hdo K hK
          have s10 : b0.tmps.getD 10 undef = .int .i64 (F : Int) := hoth 10 (by rfl)
          clear hslot hoth hdo hcl hLi
          refine guard_none (by rfl) ?_
          go_simp
          exact hK _ _ (flatL_mark (by decide) (hR.1) (fun _ _ h => h) hR.2 rfl)
        · intro b0 us wz L hslot hoth hLi hR hcl hdo K hK
          have s15 : b0.tmps.getD 15 undef = .int .i64 (F : Int) := (hslot 0 15 (by rfl)).trans (hR.2 0 (done_at hdo 0 (by rfl)))
          have hd : ¬ ((F : Int) < 0) := by omega
          clear hslot hoth hdo hcl hLi
          refine guard_none (by rfl) ?_
          go_simp
          exact hK _ _ (flatL_mark (by decide) (hR.1) (fun _ _ h => h) hR.2 rfl)
        · intro b0 us wz L hslot hoth hLi hR hcl hdo K hK
          have s16 : b0.tmps.getD 16 undef = .bool false := (hslot 1 16 (by rfl)).trans (hR.2 1 (done_at hdo 1 (by rfl)))
          clear hslot hoth hdo hcl hLi
          refine guard_none (by rfl) ?_
          go_simp
          exact hK _ _ (flatL_mark (by decide) (hR.1) (fun _ _ h => h) hR.2 rfl)
        · intro b0 us wz L hslot hoth hLi hR hcl hdo K hK
          have gg : us 2 = .bool false := hR.2 2 (done_at hdo 2 (by rfl))
          have s9 : b0.tmps.getD 9 undef = .slice (some ⟨g, 0, none⟩) ts.length c1' := hoth 9 (by rfl)
          clear hslot hoth hdo hcl hLi
          refine guard_on (j := 2) (want := false) (d := 17) (by rfl) (by rfl) gg ?_
          go_simp
          exact hK _ _ (flatL_mark (by decide) (hR.1) (fun _ _ h => h) hR.2 rfl)
        · intro b0 us wz L hslot hoth hLi hR hcl hdo K hK
          have gg : us 2 = .bool false := hR.2 2 (done_at hdo 2 (by rfl))
          have s1 : b0.tmps.getD 1 undef = .int .i64 i0 := hoth 1 (by rfl)
          clear hslot hoth hdo hcl hLi
          refine guard_on (j := 2) (want := false) (d := 17) (by rfl) (by rfl) gg ?_
          go_simp
          exact hK _ _ (flatL_mark (by decide) (hR.1) (fun _ _ h => h) hR.2 rfl)
        · intro b0 us wz L hslot hoth hLi hR hcl hdo K hK
          have gg : us 2 = .bool false := hR.2 2 (done_at hdo 2 (by rfl))
          have s5 : b0.tmps.getD 5 undef = .pointer (some ⟨gb, 0, none⟩) := hoth 5 (by rfl)
          have k0 := hR.1.2.1.c0
          have k1 := hR.1.2.1.c1
          have k2 := hR.1.2.1.c2
          clear hslot hoth hdo hcl hLi
          refine guard_on (j := 2) (want := false) (d := 17) (by rfl) (by rfl) gg ?_
          go_simp
          exact hK _ _ (flatL_mark (by decide) (hR.1) (fun _ _ h => h) hR.2 rfl)
        · intro b0 us wz L hslot hoth hLi hR hcl hdo K hK
          have gg : us 2 = .bool false := hR.2 2 (done_at hdo 2 (by rfl))
          have s18 : b0.tmps.getD 18 undef = .slice (some ⟨g, 0, none⟩) ts.length c1' := (hslot 3 18 (by rfl)).trans (hR.2 3 (done_at hdo 3 (by rfl)))
          have s19 : b0.tmps.getD 19 undef = .int .i64 i0 := (hslot 4 19 (by rfl)).trans (hR.2 4 (done_at hdo 4 (by rfl)))
          have s20 : b0.tmps.getD 20 undef = amt a b c := (hslot 5 20 (by rfl)).trans (hR.2 5 (done_at hdo 5 (by rfl)))
          have h8 : L 6 = false := hLi
          have ht := hR.1.2.2.1
          rw [h8] at ht
          simp only [Bool.false_eq_true, if_false] at ht
          have HTT := hid_of ht
          clear ht
          clear hslot hoth hdo hcl hLi
          refine guard_on (j := 2) (want := false) (d := 17) (by rfl) (by rfl) gg ?_
          go_simp
          refine (HPN.out wz HTT.out hR.1.2.2.2).mono ?_
          rintro e w' ⟨rfl, hb⟩
          exact hK _ _ (flatL_last ⟨grownBy_below hR.1.1 hb, box_on hR.1.2.1 hb, by simp only [if_true]; exact HUS.out ▸ HTT.out.keep hb, (hb.cell (World.block_lt_of_cell? wz _ hR.1.2.2.2)).trans hR.1.2.2.2⟩ (fun _ _ h => h) hR.2 rfl)
        · intro b0 us wz L hslot hoth hLi hR hcl hdo K hK
          have gg : us 2 = .bool false := hR.2 2 (done_at hdo 2 (by rfl))
          have kg := hR.1.2.2.2
          clear hslot hoth hdo hcl hLi
          refine guard_on (j := 2) (want := false) (d := 17) (by rfl) (by rfl) gg ?_
          go_simp
          exact hK _ _ (flatL_mark (by decide) (hR.1) (fun _ _ h => h) hR.2 rfl)
        · intro b0 us wz L hslot hoth hLi hR hcl hdo K hK
          have gg : us 2 = .bool false := hR.2 2 (done_at hdo 2 (by rfl))
          have s21 : b0.tmps.getD 21 undef = .iface 91 (.pointer (some sa)) := (hslot 6 21 (by rfl)).trans (hR.2 6 (done_at hdo 6 (by rfl)))
          have s22 : b0.tmps.getD 22 undef = .iface 91 (.pointer (some sa)) := (hslot 7 22 (by rfl)).trans (hR.2 7 (done_at hdo 7 (by rfl)))
          clear hslot hoth hdo hcl hLi
          refine guard_on (j := 2) (want := false) (d := 17) (by rfl) (by rfl) gg ?_
          go_simp
          refine (is_same sa _).mono ?_
          rintro e w' ⟨rfl, hw'⟩
          subst hw'
          exact hK _ _ (flatL_mark (by decide) (hR.1) (fun _ _ h => h) hR.2 rfl)
        · intro b0 us wz L hslot hoth hLi hR hcl hdo K hK
          have s17 : b0.tmps.getD 17 undef = .bool false := (hslot 2 17 (by rfl)).trans (hR.2 2 (done_at hdo 2 (by rfl)))
          have s23 : b0.tmps.getD 23 undef = .bool true := (hslot 8 23 (by rfl)).trans (hR.2 8 (done_at hdo 8 (by rfl)))
          clear hslot hoth hdo hcl hLi
          refine guard_none (by rfl) ?_
          go_simp
          exact hK _ _ (flatL_mark (by decide) (hR.1) (fun _ _ h => h) hR.2 rfl)
      · intro us wn L hall hR a' ha'
        have g0 : us 0 = .int .i64 (F : Int) := hR.2 0 (hall 0 (by decide))
        have g1 : us 1 = .bool false := hR.2 1 (hall 1 (by decide))
        have g2 : us 2 = .bool false := hR.2 2 (hall 2 (by decide))
        have g3 : us 3 = .slice (some ⟨g, 0, none⟩) ts.length c1' := hR.2 3 (hall 3 (by decide))
        have g4 : us 4 = .int .i64 i0 := hR.2 4 (hall 4 (by decide))
        have g5 : us 5 = amt a b c := hR.2 5 (hall 5 (by decide))
        have g6 : us 6 = .iface 91 (.pointer (some sa)) := hR.2 6 (hall 6 (by decide))
        have g7 : us 7 = .iface 91 (.pointer (some sa)) := hR.2 7 (hall 7 (by decide))
        have g8 : us 8 = .bool true := hR.2 8 (hall 8 (by decide))
        have g9 : us 9 = .bool true := hR.2 9 (hall 9 (by decide))
        have hE := hR.1
        rw [hall 6 (by decide)] at hE
        simp only [if_true] at hE
        have HE := hid_of hE
        clear hE
        clear hR hall
        simp only [putAll, g0, g1, g2, g3, g4, g5, g6, g7, g8, g9] at ha'
        subst ha'
        go_frame
        have HB2 : Hid (Below w.heap.size w wn) := HB1.out.grown HE.out.1 HB1.out.size fun k e => by cases e; exact HLO.out
        have HO2 : Hid (OwnT g c1' ts rs w.heap.size wn.heap.size wn) := ⟨HUS.out ▸ HE.out.2.2.1, HCAP.out, HLO.out, lt_of_block HE.out.2.2.1⟩
        clear HE HB1 HO1 HX1 HT1 HSE1
        go_wp2
        go_returns
        exact ⟨g, c1', rs, rfl, HO2.out, HB2.out⟩
    | true =>
      have e1 : splitOk ts i0 a b c = true := by simp [splitOk, hp, hf.lt]
      rw [e1, (split_yes e1).1, (split_yes e1).2]
      rw [← hF] at hf ⊢
      have HF := hid_of hf
      have HP := hid_of hp
      have hpl : (payT ts i0 a b c).length = ts.length := payT_length ts i0 a b c
      obtain ⟨us1, hus1⟩ : ∃ u, u = payT ts i0 a b c := ⟨_, rfl⟩
      have HUS : Hid (us1 = payT ts i0 a b c) := hus1
      rw [← hus1] at hpl ⊢
      have HPL := hid_of hpl
      clear e1 hf hp hF hus1 hpl
      go_enter Tryd.func7, Tryd.ntmps7
      go_wp2_with fail
      refine CC.mono ?_
      rintro e w1 ⟨g, c1', rs, rfl, ho, hb⟩
      have HB1 := hid_of (below_more HB0.out hb)
      have HO1 : Hid (OwnT g c1' ts rs w.heap.size w1.heap.size w1) := ho.lower HB0.out.size
      have HX1 := hid_of (box_on HX0.out hb)
      have HT1 := hid_of ho.at'
      have HSE1 := hid_of (HSE.out w1 HB1.out)
      have HNE : Hid (w.heap.size ≠ g) := by
        show _ ≠ _
        have := ho.lo
        simp at this
        omega
      have HG0 : Hid (g ≠ 0) := by
        show _ ≠ _
        have := HO1.out.lo
        have := HW0.out
        omega
      clear CC hb ho HX0 HB0
      have HCI : Hid (∀ w', TreeIn w' g ts rs → Calls Tryd.prog 24 #[.slice (some ⟨g, 0, none⟩) ts.length c1', (.func (.func 25) #[] #[])] w' fun e w'' => e = .returned (.int .i64 (F : Int)) ∧ Below w'.heap.size w' w'') := fun w' h => index_yes g ts.length c1' ts rs F w' h rfl HO1.out.cap HN.out HF.out
      have HPY : Hid (∀ w', TreeIn w' g ts rs → Calls Tryd.prog 27 #[.slice (some ⟨g, 0, none⟩) ts.length c1', .int .i64 i0, amt a b c] w' fun e w'' => e = .returned .nilIface ∧ TreeIn w'' g us1 rs ∧ w'.grownBy w'' (some g)) := fun w' h1 => by
        have := implPay_yes g ts.length c1' ts rs i0 a b c w' h1 rfl HO1.out.cap HN.out HP.out
        rw [HUS.out]
        exact this
      go_wp2_with fail
      refine (HCI.out w1 HT1.out).mono ?_
      rintro e wI ⟨rfl, hbI⟩
      have HBI := hid_of hbI
      replace HB1 := hid_of (below_more HB1.out hbI)
      replace HO1 := hid_of (HO1.out.on hbI).more
      replace HX1 := hid_of (box_on HX1.out hbI)
      replace HT1 := hid_of (HT1.out.keep hbI)
      replace HSE1 := hid_of (HSE.out wI HB1.out)
      clear hbI HCI HBI
      go_wp2_with fail
      obtain ⟨gb, hgb⟩ : ∃ x, x = w.heap.size := ⟨_, rfl⟩
      have HLO : Hid (w.heap.size ≤ g) := HO1.out.lo
      have HCAP : Hid (ts.length ≤ c1') := HO1.out.cap
      rw [← hgb] at HX1 HNE ⊢
      clear hgb
      refine wp_region_whole (by kernel_rfl) (by kernel_rfl) (by kernel_rfl) (by kernel_rfl) (FlatL 6 (fun o wz => wI.grownBy wz (some g) ∧ Box3 wz gb 26 a b c ∧ TreeIn wz g (if o = true then us1 else ts) rs ∧ wz.cell? ⟨0, 0, none⟩ = some (.iface 91 (.pointer (some sa)))) (gVals [.int .i64 (F : Int), .bool false, .bool false, .slice (some ⟨g, 0, none⟩) ts.length c1', .int .i64 i0, amt a b c, .nilIface, .iface 91 (.pointer (some sa)), .bool false, .bool false])) (flatL_start ⟨grownBy_drew wI _, box3_drew HX1.out, by simpa using HT1.out.drew, HSE1.out⟩) ?_ ?_
      · refine ⟨?_, ?_, ?_, ?_, ?_, ?_, ?_, ?_, ?_, ?_, trivial⟩
        · intro b0 us wz L hslot hoth hLi hR hcl hdo K hK
          have s10 : b0.tmps.getD 10 undef = .int .i64 (F : Int) := hoth 10 (by rfl)
          clear hslot hoth hdo hcl hLi
          refine guard_none (by rfl) ?_
          go_simp
          exact hK _ _ (flatL_mark (by decide) (hR.1) (fun _ _ h => h) hR.2 rfl)
        · intro b0 us wz L hslot hoth hLi hR hcl hdo K hK
          have s15 : b0.tmps.getD 15 undef = .int .i64 (F : Int) := (hslot 0 15 (by rfl)).trans (hR.2 0 (done_at hdo 0 (by rfl)))
          have hd : ¬ ((F : Int) < 0) := by omega
          clear hslot hoth hdo hcl hLi
          refine guard_none (by rfl) ?_
          go_simp
          exact hK _ _ (flatL_mark (by decide) (hR.1) (fun _ _ h => h) hR.2 rfl)
        · intro b0 us wz L hslot hoth hLi hR hcl hdo K hK
          have s16 : b0.tmps.getD 16 undef = .bool false := (hslot 1 16 (by rfl)).trans (hR.2 1 (done_at hdo 1 (by rfl)))
          clear hslot hoth hdo hcl hLi
          refine guard_none (by rfl) ?_
          go_simp
          exact hK _ _ (flatL_mark (by decide) (hR.1) (fun _ _ h => h) hR.2 rfl)
        · intro b0 us wz L hslot hoth hLi hR hcl hdo K hK
          have gg : us 2 = .bool false := hR.2 2 (done_at hdo 2 (by rfl))
          have s9 : b0.tmps.getD 9 undef = .slice (some ⟨g, 0, none⟩) ts.length c1' := hoth 9 (by rfl)
          clear hslot hoth hdo hcl hLi
          refine guard_on (j := 2) (want := false) (d := 17) (by rfl) (by rfl) gg ?_
          go_simp
          exact hK _ _ (flatL_mark (by decide) (hR.1) (fun _ _ h => h) hR.2 rfl)
        · intro b0 us wz L hslot hoth hLi hR hcl hdo K hK
          have gg : us 2 = .bool false := hR.2 2 (done_at hdo 2 (by rfl))
          have s1 : b0.tmps.getD 1 undef = .int .i64 i0 := hoth 1 (by rfl)
          clear hslot hoth hdo hcl hLi
          refine guard_on (j := 2) (want := false) (d := 17) (by rfl) (by rfl) gg ?_
          go_simp
          exact hK _ _ (flatL_mark (by decide) (hR.1) (fun _ _ h => h) hR.2 rfl)
        · intro b0 us wz L hslot hoth hLi hR hcl hdo K hK
          have gg : us 2 = .bool false := hR.2 2 (done_at hdo 2 (by rfl))
          have s5 : b0.tmps.getD 5 undef = .pointer (some ⟨gb, 0, none⟩) := hoth 5 (by rfl)
          have k0 := hR.1.2.1.c0
          have k1 := hR.1.2.1.c1
          have k2 := hR.1.2.1.c2
          clear hslot hoth hdo hcl hLi
          refine guard_on (j := 2) (want := false) (d := 17) (by rfl) (by rfl) gg ?_
          go_simp
          exact hK _ _ (flatL_mark (by decide) (hR.1) (fun _ _ h => h) hR.2 rfl)
        · intro b0 us wz L hslot hoth hLi hR hcl hdo K hK
          have gg : us 2 = .bool false := hR.2 2 (done_at hdo 2 (by rfl))
          have s18 : b0.tmps.getD 18 undef = .slice (some ⟨g, 0, none⟩) ts.length c1' := (hslot 3 18 (by rfl)).trans (hR.2 3 (done_at hdo 3 (by rfl)))
          have s19 : b0.tmps.getD 19 undef = .int .i64 i0 := (hslot 4 19 (by rfl)).trans (hR.2 4 (done_at hdo 4 (by rfl)))
          have s20 : b0.tmps.getD 20 undef = amt a b c := (hslot 5 20 (by rfl)).trans (hR.2 5 (done_at hdo 5 (by rfl)))
          have h8 : L 6 = false := hLi
          have ht := hR.1.2.2.1
          rw [h8] at ht
          simp only [Bool.false_eq_true, if_false] at ht
          have HTT := hid_of ht
          clear ht
          clear hslot hoth hdo hcl hLi
          refine guard_on (j := 2) (want := false) (d := 17) (by rfl) (by rfl) gg ?_
          go_simp
          refine (HPY.out wz HTT.out).mono ?_
          rintro e w' ⟨rfl, ht', hg'⟩
          exact hK _ _ (flatL_last ⟨grownBy_trans hR.1.1 hg', ⟨grown_kept hg' hR.1.2.1.at' (fun e => HNE.out (by cases e; rfl))⟩, by simp only [if_true]; exact ht', cell0_by hg' hR.1.2.2.2 HG0.out⟩ (fun _ _ h => h) hR.2 rfl)
        · intro b0 us wz L hslot hoth hLi hR hcl hdo K hK
          have gg : us 2 = .bool false := hR.2 2 (done_at hdo 2 (by rfl))
          have kg := hR.1.2.2.2
          clear hslot hoth hdo hcl hLi
          refine guard_on (j := 2) (want := false) (d := 17) (by rfl) (by rfl) gg ?_
          go_simp
          exact hK _ _ (flatL_mark (by decide) (hR.1) (fun _ _ h => h) hR.2 rfl)
        · intro b0 us wz L hslot hoth hLi hR hcl hdo K hK
          have gg : us 2 = .bool false := hR.2 2 (done_at hdo 2 (by rfl))
          have s21 : b0.tmps.getD 21 undef = .nilIface := (hslot 6 21 (by rfl)).trans (hR.2 6 (done_at hdo 6 (by rfl)))
          have s22 : b0.tmps.getD 22 undef = .iface 91 (.pointer (some sa)) := (hslot 7 22 (by rfl)).trans (hR.2 7 (done_at hdo 7 (by rfl)))
          clear hslot hoth hdo hcl hLi
          refine guard_on (j := 2) (want := false) (d := 17) (by rfl) (by rfl) gg ?_
          go_simp
          refine (is_nil sa _).mono ?_
          rintro e w' ⟨rfl, hw'⟩
          subst hw'
          exact hK _ _ (flatL_mark (by decide) (hR.1) (fun _ _ h => h) hR.2 rfl)
        · intro b0 us wz L hslot hoth hLi hR hcl hdo K hK
          have s17 : b0.tmps.getD 17 undef = .bool false := (hslot 2 17 (by rfl)).trans (hR.2 2 (done_at hdo 2 (by rfl)))
          have s23 : b0.tmps.getD 23 undef = .bool false := (hslot 8 23 (by rfl)).trans (hR.2 8 (done_at hdo 8 (by rfl)))
          clear hslot hoth hdo hcl hLi
          refine guard_none (by rfl) ?_
          go_simp
          exact hK _ _ (flatL_mark (by decide) (hR.1) (fun _ _ h => h) hR.2 rfl)
      · intro us wn L hall hR a' ha'
        have g0 : us 0 = .int .i64 (F : Int) := hR.2 0 (hall 0 (by decide))
        have g1 : us 1 = .bool false := hR.2 1 (hall 1 (by decide))
        have g2 : us 2 = .bool false := hR.2 2 (hall 2 (by decide))
        have g3 : us 3 = .slice (some ⟨g, 0, none⟩) ts.length c1' := hR.2 3 (hall 3 (by decide))
        have g4 : us 4 = .int .i64 i0 := hR.2 4 (hall 4 (by decide))
        have g5 : us 5 = amt a b c := hR.2 5 (hall 5 (by decide))
        have g6 : us 6 = .nilIface := hR.2 6 (hall 6 (by decide))
        have g7 : us 7 = .iface 91 (.pointer (some sa)) := hR.2 7 (hall 7 (by decide))
        have g8 : us 8 = .bool false := hR.2 8 (hall 8 (by decide))
        have g9 : us 9 = .bool false := hR.2 9 (hall 9 (by decide))
        have hE := hR.1
        rw [hall 6 (by decide)] at hE
        simp only [if_true] at hE
        have HE := hid_of hE
        clear hE
        clear hR hall
        simp only [putAll, g0, g1, g2, g3, g4, g5, g6, g7, g8, g9] at ha'
        subst ha'
        go_frame
        have HB2 : Hid (Below w.heap.size w wn) := HB1.out.grown HE.out.1 HB1.out.size fun k e => by cases e; exact HLO.out
        have hFl : F < us1.length := by rw [HPL.out]; exact HF.out.lt
        have d := HE.out.2.2.1.cell F hFl
        obtain ⟨c0, c1, c2, c3, c4⟩ := d
        have j0 := HE.out.2.2.1.free (F * 5)
        have j1 := HE.out.2.2.1.free (F * 5 + 1)
        have j2 := HE.out.2.2.1.free (F * 5 + 2)
        have j3 := HE.out.2.2.1.free (F * 5 + 3)
        have j4 := HE.out.2.2.1.free (F * 5 + 4)
        have k0 := HE.out.2.1.c0
        have k1 := HE.out.2.1.c1
        have k2 := HE.out.2.1.c2
        have t5 := HE.out.2.2.1.set5 F hFl true i0 a b c
        have HO5 : Hid (OwnT g c1' (us1.set F ⟨true, i0, a, b, c⟩) rs w.heap.size (w5 wn g (F * 5) true i0 a b c).heap.size (w5 wn g (F * 5) true i0 a b c)) := ⟨t5, by rw [List.length_set, HPL.out]; exact HCAP.out, HLO.out, lt_of_block t5⟩
        have HB5 : Hid (Below w.heap.size w (w5 wn g (F * 5) true i0 a b c)) := below_w5 HB2.out HLO.out _ _ _ _ _
        have hFi : (F : Int) < (ts.length : Int) := by have := HF.out.lt; omega
        have hlc : (ts.length : Int) ≤ (c1' : Int) := by have := HCAP.out; omega
        generalize (reAt us1 F).live = o0 at c0
        generalize (reAt us1 F).par = o1 at c1
        generalize (reAt us1 F).a = o2 at c2
        generalize (reAt us1 F).b = o3 at c3
        generalize (reAt us1 F).c = o4 at c4
        clear t5 HB1 HO1 HX1 HT1 HSE1 HE HB2 hFl
        go_wp2
        go_returns
        exact ⟨g, c1', rs, rfl, HO5.out, HB5.out⟩
end Go.Proofs.YtikaibfahanpnaaDoor
