/-
  The program's TreeDrop.
-/
import Derived.Test.YtikaibfahanpnaaDoorSpecDrop
import Derived.Test.YtikaibfahanpnaaDoorIBack
import Derived.Deep.Cut
namespace Go.Proofs.YtikaibfahanpnaaDoor
open Go.RowKit
set_option linter.unusedVariables false
set_option maxRecDepth 100000

theorem box5_away {w : World} {g gG i : Nat} {o : Obj} (h : w.heap[gG]? = some o) (hne : gG ≠ g) (l : Bool) (p a b c : Int) : (w5 w g i l p a b c).heap[gG]? = some o := by
  unfold w5
  rw [heap_setCell_other _ _ _ _ (by simpa using hne), heap_setCell_other _ _ _ _ (by simpa using hne), heap_setCell_other _ _ _ _ (by simpa using hne), heap_setCell_other _ _ _ _ (by simpa using hne), heap_setCell_other _ _ _ _ (by simpa using hne)]
  exact h
set_option maxRecDepth 100000 in
set_option maxHeartbeats 8000000 in
theorem implDrop_any (p : Addr) (cap : Nat) (ts : List Re) (i0 : Int) (w : World) (hx : IsTree w (.slice (some p) ts.length cap) ts) (hn : ts.length ≤ 1048576) :
    Calls Tryd.prog 11 #[.slice (some p) ts.length cap, .int .i64 i0] w fun e w' => TreeAns ts.length (dropOf ts i0) (dropOk ts i0) w e w' := by
  have CC := implClone_any p ts.length cap ts w hx rfl hn
  have HCO : Hid (∀ w', Below w.heap.size w w' → Calls Tryd.prog 28 #[.slice (some p) ts.length cap] w' fun e w'' => e = .returned (.bool (treeOk ts)) ∧ Below w'.heap.size w' w'') := fun w' hb => implTreeOk_any _ ts w' (hx.on hb) hn
  have HCL : Hid (∀ w', Below w.heap.size w w' → Calls Tryd.prog 30 #[.slice (some p) ts.length cap, .int .i64 i0] w' fun e w'' => e = .returned (.bool (livePl ts i0)) ∧ w' = w'') := fun w' hb => implLive_any _ ts i0 w' (hx.on hb) hn
  have HXX : Hid (IsTree w (.slice (some p) ts.length cap) ts) := hx
  have HN : Hid (ts.length ≤ 1048576) := hn
  have hcap : ts.length ≤ cap := by
    obtain ⟨a', cap', hv, hc, _⟩ := hx
    cases hv
    exact hc
  clear hx hn
  cases hok : treeOk ts with
  | false =>
    have e1 : dropOk ts i0 = false := by simp [dropOk, liveIn, hok]
    have e2 : dropOf ts i0 = ts := by simp [dropOf, e1]
    rw [e1, e2]
    rw [hok] at HCO
    clear e1 e2 hok HXX hcap HCL
    go_enter Tryd.func11, Tryd.ntmps11
    go_wp2_with fail
    refine CC.mono ?_
    rintro e w1 ⟨g, c1', rs, rfl, ho, hb⟩
    have HB1 := hid_of hb
    have HO1 := hid_of ho
    clear CC hb ho
    go_wp2_with fail
    refine (HCO.out w1 HB1.out).mono ?_
    rintro e w2 ⟨rfl, hb⟩
    have HB2 := hid_of (below_more HB1.out hb)
    have HO2 := hid_of (HO1.out.on hb).more
    clear HCO hb HO1 HB1
    go_wp2
    go_returns
    exact ⟨g, c1', rs, rfl, HO2.out, HB2.out⟩
  | true =>
    rw [hok] at HCO
    rw [live_eq hok] at HCL
    by_cases h0 : i0 = 0
    · have e1 : dropOk ts i0 = false := by simp [dropOk, h0]
      have e2 : dropOf ts i0 = ts := by simp [dropOf, e1]
      rw [e1, e2]
      subst h0
      clear e1 e2 hok HXX hcap HCL
      go_enter Tryd.func11, Tryd.ntmps11
      go_wp2_with fail
      refine CC.mono ?_
      rintro e w1 ⟨g, c1', rs, rfl, ho, hb⟩
      have HB1 := hid_of hb
      have HO1 := hid_of ho
      clear CC hb ho
      go_wp2_with fail
      refine (HCO.out w1 HB1.out).mono ?_
      rintro e w2 ⟨rfl, hb⟩
      have HB2 := hid_of (below_more HB1.out hb)
      have HO2 := hid_of (HO1.out.on hb).more
      clear HCO hb HO1 HB1
      go_wp2
      go_returns
      exact ⟨g, c1', rs, rfl, HO2.out, HB2.out⟩
    · have hd0 : decide (i0 = 0) = false := by simpa using h0
      cases hlive : liveIn ts i0 with
      | false =>
        have e1 : dropOk ts i0 = false := by simp [dropOk, hlive]
        have e2 : dropOf ts i0 = ts := by simp [dropOf, e1]
        rw [e1, e2]
        rw [hlive] at HCL
        clear e1 e2 hok hlive HXX hcap
        go_enter Tryd.func11, Tryd.ntmps11
        go_wp2_with fail
        refine CC.mono ?_
        rintro e w1 ⟨g, c1', rs, rfl, ho, hb⟩
        have HB1 := hid_of hb
        have HO1 := hid_of ho
        clear CC hb ho
        go_wp2_with fail
        refine (HCO.out w1 HB1.out).mono ?_
        rintro e w2 ⟨rfl, hb⟩
        have HB2 := hid_of (below_more HB1.out hb)
        have HO2 := hid_of (HO1.out.on hb).more
        clear HCO hb HO1 HB1
        go_wp2_with fail
        refine (HCL.out w2 HB2.out).mono ?_
        rintro e w3 ⟨rfl, hw3⟩
        subst hw3
        clear HCL
        go_wp2
        go_returns
        exact ⟨g, c1', rs, rfl, HO2.out, HB2.out⟩
      | true =>
        rw [hlive] at HCL
        have hdo : dropOk ts i0 = true := by simp [dropOk, hlive, h0]
        obtain ⟨m, P, rfl, hD⟩ := dropAt_of hdo
        have e2 : dropOf ts (m : Int) = dropT ts m := by simp [dropOf, hdo]
        rw [hdo, e2]
        have HL5 : Hid (ts.length = 5) := treeOk_five hok
        have HD : Hid (DropAt ts m P) := hD
        obtain ⟨bs, hbs⟩ : ∃ bs, bs = dropB ts m P := ⟨_, rfl⟩
        have HDT : Hid (dropT ts m = bs.map (fI m P)) := by show _ = _; rw [hbs]; exact dropT_of hD
        have HDL : Hid ((dropT ts m).length = ts.length) := by show _ = _; rw [dropT_of hD]; simp [dropB]
        have HBL : Hid (bs.length = ts.length) := by show _ = _; rw [hbs]; exact dropB_length _ _ _
        have HADD := hid_of hD.add
        obtain ⟨p', qm, hpp, hqm, hcm⟩ := HXX.out.at (i := m) (by have := HL5.out; have := hD.hm; omega)
        cases hpp
        have HQM : Hid (∀ w', Below w.heap.size w w' → Cells5 w' qm (reAt ts m)) := fun w' hb => hcm.on hb
        have HBS0 : Hid (bs = (ts.set m noRe).set P (addR (reAt ts P) (reAt ts m).a (reAt ts m).b (reAt ts m).c)) := hbs
        have HPAR : Hid ((reAt ts m).par = (P : Int) ∧ (reAt ts m).live = true) := ⟨hD.par, hD.lm⟩
        obtain ⟨rm, hrm⟩ : ∃ r, reAt ts m = r := ⟨_, rfl⟩
        have HRM : Hid (reAt ts m = rm) := hrm
        rw [hrm] at HQM HPAR HBS0 HADD
        obtain ⟨lm, pm, ra, rb, rc⟩ := rm
        simp only at HPAR HBS0 HADD
        obtain rfl : pm = (P : Int) := HPAR.out.1
        obtain rfl : lm = true := HPAR.out.2
        clear hrm HPAR hcm hbs hD hdo hok hlive e2 HXX
        go_enter Tryd.func11, Tryd.ntmps11
        go_wp2_with fail
        refine CC.mono ?_
        rintro e w1 ⟨g, c1', rs, rfl, ho, hb⟩
        have HB1 := hid_of hb
        have HO1 := hid_of ho
        clear CC hb ho
        go_wp2_with fail
        refine (HCO.out w1 HB1.out).mono ?_
        rintro e w2 ⟨rfl, hb⟩
        have HB2 := hid_of (below_more HB1.out hb)
        have HO2 := hid_of (HO1.out.on hb).more
        clear HCO hb HO1 HB1
        go_wp2_with fail
        refine (HCL.out w2 HB2.out).mono ?_
        rintro e w3 ⟨rfl, hw3⟩
        subst hw3
        clear HCL
        have HGL : Hid (w.heap.size ≤ g) := HO2.out.lo
        have HCAP : Hid (ts.length ≤ c1') := HO2.out.cap
        have hPl : P < ts.length := by have := HL5.out; have := HD.out.hP; omega
        have hml : m < ts.length := by have := HL5.out; have := HD.out.hm; omega
        have hPi : (P : Int) < (ts.length : Int) := by omega
        have hmi : (m : Int) < (ts.length : Int) := by omega
        have hlc : (ts.length : Int) ≤ (c1' : Int) := by have := HCAP.out; omega
        obtain ⟨c0, c1, c2, c3, c4⟩ := HQM.out w2 HB2.out
        simp only at c0 c1 c2 c3 c4
        have ho3 := HO2.out.on (below_alloc w2 (boxR true (P : Int) ra rb rc))
        have hb3 : Below w.heap.size w (w2.alloc (boxR true (P : Int) ra rb rc)) := below_more HB2.out (below_alloc _ _)
        have hgg : (w2.alloc (boxR true (P : Int) ra rb rc)).heap[w2.heap.size]? = some (boxR true (P : Int) ra rb rc) := heap_alloc_new w2 _
        have hng : w2.heap.size ≠ g := by have := lt_of_block HO2.out.at'; omega
        have HNG0 := hid_of hng
        have sp := ho3.at'.cell m hml
        have e0 := sp.c0
        have e1 := sp.c1
        have e2 := sp.c2
        have e3 := sp.c3
        have e4 := sp.c4
        have j0 := ho3.at'.free (m * 5)
        have j1 := ho3.at'.free (m * 5 + 1)
        have j2 := ho3.at'.free (m * 5 + 2)
        have j3 := ho3.at'.free (m * 5 + 3)
        have j4 := ho3.at'.free (m * 5 + 4)
        rw [HRM.out] at e0 e1 e2 e3 e4
        simp only at e0 e1 e2 e3 e4
        have HT3 := hid_of ho3.at'
        have HB3 := hid_of hb3
        have HG3 := hid_of hgg
        clear hgg hng sp ho3 hb3 HQM
        go_upto_region 6 with fail
        obtain ⟨W4, hW4⟩ : ∃ x, x = (((((w2.alloc (boxR true (P : Int) ra rb rc)).setCell ⟨g, m * 5, none⟩ (.bool false)).setCell ⟨g, m * 5 + 1, none⟩ (.int .i64 0)).setCell ⟨g, m * 5 + 2, none⟩ (.int .i64 0)).setCell ⟨g, m * 5 + 3, none⟩ (.int .i64 0)).setCell ⟨g, m * 5 + 4, none⟩ (.int .i64 0) := ⟨_, rfl⟩
        have HT4 : Hid (TreeIn W4 g (ts.set m noRe) rs) := by
          show TreeIn _ _ _ _
          rw [hW4]
          exact HT3.out.set5 m hml false 0 0 0 0
        have HB4 : Hid (Below w.heap.size w W4) := by
          show Below _ _ _
          rw [hW4]
          exact below_w5 (i := m * 5) HB3.out HGL.out false 0 0 0 0
        have HG4 : Hid (W4.heap[w2.heap.size]? = some (boxR true (P : Int) ra rb rc)) := by
          show _ = _
          rw [hW4]
          exact box5_away HG3.out HNG0.out false 0 0 0 0
        rw [← hW4]
        have k1 : W4.cell? ⟨w2.heap.size, 1, none⟩ = some (.int .i64 (P : Int)) := by simp [World.cell?, HG4.out]
        have k2 : W4.cell? ⟨w2.heap.size, 2, none⟩ = some (.int .i64 ra) := by simp [World.cell?, HG4.out]
        have k3 : W4.cell? ⟨w2.heap.size, 3, none⟩ = some (.int .i64 rb) := by simp [World.cell?, HG4.out]
        have k4 : W4.cell? ⟨w2.heap.size, 4, none⟩ = some (.int .i64 rc) := by simp [World.cell?, HG4.out]
        clear hW4 HT3 HB3 HG3 e0 e1 e2 e3 e4 j0 j1 j2 j3 j4 c0 c1 c2 c3 c4
        go_wp2_with fail
        refine (implBring_any g ts.length c1' (ts.set m noRe) rs P ra rb rc _ HT4.out (by simp) (by simpa using HCAP.out) (by simpa using hPl) (by simpa using HN.out) (by rw [reAt_other _ _ _ _ HD.out.ne]; exact HADD.out)).mono ?_
        rintro e w6 ⟨rfl, ht6, hg6⟩
        have HT5 : Hid (TreeIn w6 g bs rs) := by
          show TreeIn _ _ _ _
          rw [HBS0.out]
          rw [reAt_other _ _ _ _ HD.out.ne] at ht6
          exact ht6
        have HB5 : Hid (Below w.heap.size w w6) := HB4.out.grown hg6 HB4.out.size fun k e => by cases e; exact HGL.out
        obtain ⟨gG, hgG⟩ : ∃ x, x = w2.heap.size := ⟨_, rfl⟩
        have HG5 : Hid (w6.heap[gG]? = some (boxR true (P : Int) ra rb rc)) := by
          show _ = _
          rw [hgG]
          exact grown_kept hg6 HG4.out (fun e => HNG0.out (by cases e; rfl))
        have HNG : Hid (gG ≠ g) := by show _ ≠ _; rw [hgG]; exact HNG0.out
        rw [← hgG]
        clear ht6 hg6 hgG HT4 HB4 HG4 k1 k2 k3 k4 HO2 HB2 HNG0
        go_wp2
        go_loopw [41] (fun i wr => ∃ k : Nat, k ≤ ts.length ∧ i = .int .i64 k ∧ Hid (TreeIn wr g (mapK (fI m P) bs k) rs) ∧ Hid (Below w.heap.size w wr) ∧ Hid (wr.heap[gG]? = some (boxR true (P : Int) ra rb rc))) (fun i _ => ts.length - (intOf i).toNat)
        case atStart => exact ⟨0, Nat.zero_le _, rfl, by rw [mapK_start]; exact HT5, HB5, HG5⟩
        case round =>
          obtain ⟨k, hk, rfl, HT, HB, HGB⟩ := hrel
          clear HT5 HB5 HG5
          by_cases hlt : k < ts.length
          · have hkb : k < bs.length := by rw [HBL.out]; exact hlt
            have hkm : k < (mapK (fI m P) bs k).length := by rw [mapK_length]; exact hkb
            have d := HT.out.cell k hkm
            rw [mapK_at _ _ _ hkb] at d
            have c0 := d.c0
            have c1 := d.c1
            have f1 := HT.out.free (k * 5 + 1)
            have HPUT : Hid (∀ r, reAt bs k = r → fI m P r = { r with par := (P : Int) } → TreeIn (wr.setCell ⟨g, k * 5 + 1, none⟩ (.int .i64 (P : Int))) g (mapK (fI m P) bs (k + 1)) rs) := fun r hr h => by
              have := HT.out.put1 k hkm (P : Int)
              rw [mapK_at _ _ _ hkb, hr, ← h, ← hr, mapK_set _ _ _ hkb] at this
              exact this
            have HSAM : Hid (∀ r, reAt bs k = r → fI m P r = r → TreeIn wr g (mapK (fI m P) bs (k + 1)) rs) := fun r hr h => by
              rw [mapK_same _ _ _ hkb (by rw [hr]; exact h)]
              exact HT.out
            have HBS : Hid (Below w.heap.size w (wr.setCell ⟨g, k * 5 + 1, none⟩ (.int .i64 (P : Int)))) := HB.out.setCell (p := ⟨g, _, none⟩) HGL.out _
            have hlc : (ts.length : Int) ≤ (c1' : Int) := by have := HCAP.out; omega
            have hki : (k : Int) < (ts.length : Int) := by omega
            have hk6 : ts.length ≤ 1048576 := by have := HL5.out; omega
            obtain ⟨r, hr⟩ : ∃ r, reAt bs k = r := ⟨_, rfl⟩
            replace HPUT := hid_of (HPUT.out r hr)
            replace HSAM := hid_of (HSAM.out r hr)
            rw [hr] at c0 c1
            clear hr d hkb hkm
            obtain ⟨l, pr, ea, eb, ec⟩ := r
            simp only at c0 c1
            by_cases hpm : pr = (m : Int)
            · subst hpm
              have HS := hid_of (HPUT.out (by simp [fI]))
              clear HPUT HSAM
              have kg : wr.cell? ⟨gG, 1, none⟩ = some (.int .i64 (P : Int)) := by simp [World.cell?, HGB.out]
              go_wp2
              go_roundw
              case rel => exact ⟨k + 1, by omega, by go_num, HS, HBS, hid_of (by show _ = _; rw [heap_setCell_other _ _ _ _ (by simpa using HNG.out)]; exact HGB.out)⟩
              case measure => simp [intOf]; omega
            · have hpd : decide (pr = (m : Int)) = false := by simpa using hpm
              have HS := hid_of (HSAM.out (by simp [fI, hpm]))
              clear HPUT HSAM HBS
              go_wp2
              go_roundw
              case rel => exact ⟨k + 1, by omega, by go_num, HS, HB, HGB⟩
              case measure => simp [intOf]; omega
          · obtain rfl : k = ts.length := by omega
            have HE : Hid (OwnT g c1' (dropT ts m) rs w.heap.size wr.heap.size wr) := by
              have h := HT.out
              rw [← HBL.out, mapK_end, ← HDT.out] at h
              exact ⟨h, by rw [HDL.out]; exact HCAP.out, HGL.out, lt_of_block h⟩
            clear HT HCAP HGL
            go_wp2
            go_returns
            exact ⟨g, c1', rs, rfl, HE.out, HB.out⟩
end Go.Proofs.YtikaibfahanpnaaDoor
