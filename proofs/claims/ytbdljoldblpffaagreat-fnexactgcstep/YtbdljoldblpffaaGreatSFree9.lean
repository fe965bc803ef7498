/-
  A thing leaves: the model.
-/
import Derived.Test.YtbdljoldblpffaaGreatIFree
import Derived.Test.YtbdljoldblpffaaGreatCopyA8
import Derived.Test.YtbdljoldblpffaaGreatArOkS
namespace Go.Proofs.YtbdljoldblpffaaGreat
open Go.RowKit
set_option linter.unusedVariables false
set_option maxRecDepth 100000

/-- What is nothing leads nowhere, what is a thing has two links. -/
def Tidy (os : List Ob) : Prop := ∀ k, k < os.length → ((obAt os k).kind = 0 → (obAt os k).into = 0 ∧ (obAt os k).ls = []) ∧ ((obAt os k).kind ≠ 0 → (obAt os k).ls.length = 2)
theorem obOk_two {o : Ob} (h : obOk o = true) (hz : o.kind ≠ 0) : o.ls.length = 2 := by
  have hc : commonB o = true → o.ls.length = 2 := fun h => by
    unfold commonB at h
    simp only [Bool.and_eq_true, decide_eq_true_eq] at h
    exact h.2.2.2.2.1
  unfold obOk at h
  simp only [Bool.and_eq_true] at h
  obtain ⟨_, h⟩ := h
  rw [if_neg hz] at h
  split at h
  · exact hc (by unfold boxB at h; simp only [Bool.and_eq_true] at h; exact h.1)
  · split at h
    · exact hc (by unfold segB at h; simp only [Bool.and_eq_true] at h; exact h.1)
    · split at h
      · exact hc (by unfold gateB at h; simp only [Bool.and_eq_true] at h; exact h.1)
      · split at h
        · exact hc (by unfold thrB at h; simp only [Bool.and_eq_true] at h; exact h.1)
        · cases h
theorem tidy_of {os : List Ob} (h : arenaOk os = true) : Tidy os := fun k hk => by
  have hall : os.all obOk = true := by unfold arenaOk at h; simp only [Bool.and_eq_true] at h; exact h.2.1
  have e := obOk_at hall hk
  exact ⟨fun hz => zero_into e hz, fun hz => obOk_two e hz⟩
theorem tidy_set {os : List Ob} (h : Tidy os) (j : Nat) (x : Int) : Tidy (os.set j (newO x)) := fun k hk => by
  rw [List.length_set] at hk
  by_cases e : j = k
  · subst e
    have : obAt (os.set j (newO x)) j = newO x := by simp [obAt, hk]
    rw [this]
    exact ⟨fun _ => ⟨rfl, rfl⟩, fun hz => absurd rfl hz⟩
  · have : obAt (os.set j (newO x)) k = obAt os k := by unfold obAt List.getD; rw [List.getElem?_set_ne e]
    rw [this]
    exact h k hk
theorem unO_none {z : Int} {o : Ob} (hz : z ≠ 0) (h : o.into = 0 ∧ o.ls = []) : unO z o = o := by
  obtain ⟨gen, kind, into, res, unt, pages, wait, got, ran, mark, ls, ds, qs⟩ := o
  obtain ⟨h1, h2⟩ := h
  simp only at h1 h2
  subst h1 h2
  unfold unO unN
  simp [show ¬ (0 : Int) = z from fun e => hz e.symm]
set_option maxRecDepth 100000 in
set_option maxHeartbeats 8000000 in
theorem specFree_go (p : Addr) (cap0 : Nat) (os0 : List Ob) (k0 : Nat) (w : World) (hx : IsArena w (.slice (some p) 10 cap0) os0) (hok : arenaOk os0 = true) (hs : Small8 os0) (hf : AllFit os0) (h0 : 0 < k0) (h9 : k0 < 10) (hkk : (obAt os0 k0).kind ≠ 0) :
    Calls Tryz.prog 40 #[.slice (some p) 10 cap0, .int .i64 k0] w fun e w' => FreeAns ((os0.set k0 (newO (obAt os0 k0).gen)).map (unO k0)) true w e w' := by
  have hlen : os0.length = 10 := by unfold arenaOk at hok; simp only [Bool.and_eq_true, decide_eq_true_eq] at hok; exact hok.1
  have HC : Hid (∀ w', Below w.heap.size w w' → Calls Tryz.prog 48 #[.slice (some p) 10 cap0] w' fun e w'' => ∃ g c fs rest, e = .returned (.slice (some ⟨g, 0, none⟩) 10 c) ∧ arOf fs = os0 ∧ OwnA g c fs rest w'.heap.size w''.heap.size w'' ∧ Below w'.heap.size w' w'') := fun w' hb => by
    have e := specCopyA_any _ os0 w' (hx.on hb) (by omega) hs
    unfold ArenaOwn at e
    rw [hlen] at e
    exact e
  have HA : Hid (∀ w', Below w.heap.size w w' → Calls Tryz.prog 49 #[.slice (some p) 10 cap0] w' fun e w'' => e = .returned (.bool true) ∧ Below w'.heap.size w' w'') := fun w' hb => by
    have e := specArenaOk_any _ os0 w' (hx.on hb) (by omega) hs hf
    rw [hok] at e
    exact e
  have CI := fun w => l1In_b (k0 : Int) 1 9 w
  rw [inB_yes (by omega) (by omega)] at CI
  have HX : Hid (∀ w', Below w.heap.size w w' → IsArena w' (.slice (some p) 10 cap0) os0) := fun w' hb => hx.on hb
  have hcap0 : 10 ≤ cap0 := by obtain ⟨_, _, hv, h, _⟩ := hx; have e := (Value.slice.inj hv).2.2; omega
  have HL0 : Hid (os0.length = 10) := hlen
  obtain ⟨os, hos⟩ : ∃ os, os = os0.set k0 (newO (obAt os0 k0).gen) := ⟨_, rfl⟩
  have HTD : Hid (Tidy os) := by rw [hos]; exact tidy_set (tidy_of hok) _ _
  have HOS : Hid (os = os0.set k0 (newO (obAt os0 k0).gen)) := hos
  have HOL : Hid (os.length = 10) := by show _ = _; rw [hos, List.length_set]; exact hlen
  have HKK : Hid ((obAt os0 k0).kind ≠ 0) := hkk
  rw [← hos]
  clear hok hs hf hx hlen hos hkk
  go_enter Tryz.func40, Tryz.ntmps40
  go_wp2_with fail
  refine (HC.out _ (Below.refl _ _)).mono ?_
  rintro e w1 ⟨g, cap, fs, rest, rfl, hfs, hown1, hb⟩
  have HB1 := hid_of hb
  have HA1 := hid_of (show arOf fs = os0 ∧ OwnA g cap fs rest w.heap.size w1.heap.size w1 from ⟨hfs, hown1⟩)
  clear hb hfs hown1 HC
  go_wp2_with fail
  refine (HA.out _ HB1.out).mono ?_
  rintro e w2 ⟨rfl, hb⟩
  have HB2 := hid_of (below_more HB1.out hb)
  have HA2 := hid_of (show arOf fs = os0 ∧ OwnA g cap fs rest w.heap.size w2.heap.size w2 from ⟨HA1.out.1, (HA1.out.2.on hb).wide (Nat.le_refl _) hb.size⟩)
  obtain ⟨p', q, l, d, m, hp, hq, ⟨c0, c1, -, -, -, -, -, -, -, -, -, -, -⟩, -⟩ := (HX.out w2 HB2.out).at (i := k0) (by rw [HL0.out]; exact h9)
  obtain rfl : p = p' := by simpa using hp
  have hfl : fs.length = 10 := by rw [← HL0.out, ← HA2.out.1, arOf_length]
  have hkf : k0 < fs.length := by omega
  have HPUT : Hid _ := hid_of (HA2.out.2.put (e := ⟨newO (obAt os0 k0).gen, .slice none 0 0, .slice none 0 0, .slice none 0 0⟩) (ownO_new w2.heap.size w2.heap.size w2 _) (Nat.le_refl _) hkf)
  have HAR : Hid (arOf (fs.set k0 ⟨newO (obAt os0 k0).gen, .slice none 0 0, .slice none 0 0, .slice none 0 0⟩) = os) := by show arOf _ = _; rw [arOf_set, HA2.out.1, HOS.out]
  have HBW : Hid (Below w.heap.size w (w13 w2 g (k0 * 13) (newO (obAt os0 k0).gen) (.slice none 0 0) (.slice none 0 0) (.slice none 0 0))) := below_w13 HB2.out HA2.out.2.lo _ _ _ _ _
  obtain ⟨d0, d1, d2, d3, d4, d5, d6, d7, d8, d9, d10, d11, d12⟩ := HA2.out.2.cells hkf
  have hff := HA2.out.2.free
  have f0 := hff (k0 * 13)
  have f1 := hff (k0 * 13 + 1)
  have f2 := hff (k0 * 13 + 2)
  have f3 := hff (k0 * 13 + 3)
  have f4 := hff (k0 * 13 + 4)
  have f5 := hff (k0 * 13 + 5)
  have f6 := hff (k0 * 13 + 6)
  have f7 := hff (k0 * 13 + 7)
  have f8 := hff (k0 * 13 + 8)
  have f9 := hff (k0 * 13 + 9)
  have f10 := hff (k0 * 13 + 10)
  have f11 := hff (k0 * 13 + 11)
  have f12 := hff (k0 * 13 + 12)
  have hkz : ((obAt os0 k0).kind == 0) = false := beq_eq_false_iff_ne.2 HKK.out
  have hlc : 10 ≤ cap := by have e := HA2.out.2.cap; omega
  obtain ⟨lo, hlo⟩ : ∃ lo, lo = w.heap.size := ⟨_, rfl⟩
  obtain ⟨hi, hhi⟩ : ∃ hi, hi = w2.heap.size := ⟨_, rfl⟩
  obtain ⟨fs1, hfs1⟩ : ∃ fs1, fs1 = fs.set k0 ⟨newO (obAt os0 k0).gen, .slice none 0 0, .slice none 0 0, .slice none 0 0⟩ := ⟨_, rfl⟩
  have HP : Hid (OwnA g cap fs1 rest lo hi (w13 w2 g (k0 * 13) (newO (obAt os0 k0).gen) (.slice none 0 0) (.slice none 0 0) (.slice none 0 0))) := by rw [hlo, hhi, hfs1]; exact HPUT.out
  rw [← hfs1] at HAR
  obtain ⟨Ws, hWs⟩ : ∃ Ws, Ws = w13 w2 g (k0 * 13) (newO (obAt os0 k0).gen) (.slice none 0 0) (.slice none 0 0) (.slice none 0 0) := ⟨_, rfl⟩
  have HWS := hid_of hWs
  have HBS : Hid (Below lo w Ws) := by rw [hWs, hlo]; exact HBW.out
  have HLO := hid_of hlo
  clear hp hb HB1 HA1 hff hfl hkf hlo hhi hfs1 hWs HPUT HBW
  have hz1 : (1 : Int) ≤ (k0 : Int) := by omega
  have hz9 : (k0 : Int) < 10 := by omega
  go_wp2_with fail
  refine (CI _).mono ?_
  rintro e w3 ⟨rfl, rfl⟩
  clear CI
  go_wp2
  go_loopw [7] (fun s7 wr => ∃ (k : Nat), k ≤ 10 ∧ s7 = .int .i64 k ∧ Hid (∃ fs', arOf fs' = unA (k0 : Int) os k ∧ OwnA g cap fs' rest lo hi wr ∧ Turned8 lo hi Ws wr)) (fun s7 _ => 10 - (intOf s7).toNat)
  case atStart => exact ⟨0, Nat.zero_le _, rfl, fs1, by rw [unA_start]; exact HAR.out, HP.out, by rw [HWS.out]; exact Turned8.refl _ _ _⟩
  case round =>
    obtain ⟨k, hk, rfl, hs⟩ := hrel
    clear HP HAR HWS d0 d1 d2 d3 d4 d5 d6 d7 d8 d9 d10 d11 d12 f0 f1 f2 f3 f4 f5 f6 f7 f8 f9 f10 f11 f12 c0 c1 hq
    by_cases hlt : k < 10
    · obtain ⟨W0, hW0⟩ : ∃ W0, W0 = wr := ⟨_, rfl⟩
      subst hW0
      have HF : Hid (arOf hs.out.choose = unA (k0 : Int) os k ∧ OwnA g cap hs.out.choose rest lo hi W0 ∧ Turned8 lo hi Ws W0) := hs.out.choose_spec
      generalize hs.out.choose = fs' at HF
      clear hs
      have hko : k < os.length := by rw [HOL.out]; exact hlt
      have hfl : fs'.length = 10 := by have e := congrArg List.length HF.out.1; rw [arOf_length, unA_length, HOL.out] at e; exact e
      have hkf : k < fs'.length := by omega
      have hob : (elAt fs' k).o = obAt os k := by rw [← arOf_at, HF.out.1, unA_at (k0 : Int) hko]
      have hown := HF.out.2.1
      have hoo := hown.own k hkf
      have hc := hown.cells hkf
      have hne := hown.ne k hkf
      have hgz : g < W0.heap.size := lt_of_block hown.at'
      have hfr2 := hown.free (k * 13 + 2)
      have HB1 := hid_of hown
      have HO1 := hid_of hoo
      have HNE := hid_of hne
      have hd : decide ((k : Int) < 10) = true := decide_eq_true (by omega)
      by_cases hkz : (elAt fs' k).o.kind = 0
      · have HS : Hid (∃ fs', arOf fs' = unA (k0 : Int) os (k + 1) ∧ OwnA g cap fs' rest lo hi W0 ∧ Turned8 lo hi Ws W0) := ⟨fs', by
          have e1 : fs'.set k (elAt fs' k) = fs' := by rw [elAt_in hkf]; exact List.set_getElem_self hkf
          rw [← unA_set (k0 : Int) hko, unO_none (by omega) ((HTD.out k hko).1 (by rw [← hob]; exact hkz)), ← HF.out.1, ← hob, ← arOf_set, e1], HF.out.2⟩
        have c1 := hc.c1
        rw [hkz] at c1
        clear hown hoo hc hne HF HB1 HO1 HNE hob hkz hfr2 hgz hkf hfl hko
        go_wp2
        go_roundw
        case rel => exact ⟨k + 1, by omega, by go_num, HS⟩
        case measure => simp [intOf]; omega
      · by_cases hz : (elAt fs' k).o.into = (k0 : Int)
        · have HGW : Hid ((W0.setCell ⟨g, k * 13 + 2, none⟩ (.int .i64 (-1))).heap[g]? = some (.cells (ecells (fs'.set k ⟨unO (k0 : Int) (elAt fs' k).o, (elAt fs' k).l, (elAt fs' k).d, (elAt fs' k).m⟩) ++ rest).toArray 55 (0, 0))) := by
            have e := heap_setCell_same W0 g (k * 13 + 2) _ 55 (.int .i64 (-1)) hown.at'
            rw [e, ecells_put1 hkf rest ⟨unO (k0 : Int) (elAt fs' k).o, (elAt fs' k).l, (elAt fs' k).d, (elAt fs' k).m⟩ 2 (.int .i64 (-1)) (by decide) (by simp [elV, unO, unN, hz])]
            simp only [List.setIfInBounds_toArray]
            exact trivial
          have HTW : Hid (Touch [g] W0 (W0.setCell ⟨g, k * 13 + 2, none⟩ (.int .i64 (-1)))) := touch_one (grownBy_set W0 g _ _) hgz
          have HNE2 : Hid (g ∉ Go.Proofs.YtbdljoldblpffaaGreat.blk (elAt fs' k).l ∧ g ∉ Go.Proofs.YtbdljoldblpffaaGreat.blk (elAt fs' k).d ∧ g ∉ Go.Proofs.YtbdljoldblpffaaGreat.blk (elAt fs' k).m) := by
            have e := hne
            unfold blks at e
            simp only [List.mem_append, not_or] at e
            exact ⟨e.1.1, e.1.2, e.2⟩
          have hap := apart_ld hoo
          have HLW0 : OwnI lo hi (W0.setCell ⟨g, k * 13 + 2, none⟩ (.int .i64 (-1))) (elAt fs' k).l (elAt fs' k).o.ls := hoo.ls.keepIf fun b x hb hx => HTW.out.block _ _ (by simp; intro e; rw [e] at hb; exact HNE2.out.1 hb) hx
          have HDW0 : OwnI lo hi (W0.setCell ⟨g, k * 13 + 2, none⟩ (.int .i64 (-1))) (elAt fs' k).d (elAt fs' k).o.ds := hoo.ds.keepIf fun b x hb hx => HTW.out.block _ _ (by simp; intro e; rw [e] at hb; exact HNE2.out.2.1 hb) hx
          have HMW0 : OwnM lo hi (W0.setCell ⟨g, k * 13 + 2, none⟩ (.int .i64 (-1))) (elAt fs' k).m (elAt fs' k).o.qs := hoo.qs.keepIf fun b x hb hx => HTW.out.block _ _ (by simp; intro e; rw [e] at hb; exact HNE2.out.2.2 hb) hx
          have HE0 : ∀ w3, OwnI lo hi w3 (elAt fs' k).l ((elAt fs' k).o.ls.map (unN (k0 : Int))) → Touch (Go.Proofs.YtbdljoldblpffaaGreat.blk (elAt fs' k).l) (W0.setCell ⟨g, k * 13 + 2, none⟩ (.int .i64 (-1))) w3 → ∃ fs', arOf fs' = unA (k0 : Int) os (k + 1) ∧ OwnA g cap fs' rest lo hi w3 ∧ Turned8 lo hi Ws w3 := fun w3 e1 e2 => by
            refine ⟨_, ?_, hown.mark hkf (o' := unO (k0 : Int) (elAt fs' k).o) (e2.block _ _ HNE2.out.1 HGW.out) ⟨e1, HDW0.keepIf fun b x hb hx => e2.block _ _ (hap.1 b hb) hx, HMW0.keepIf fun b x hb hx => e2.block _ _ (hap.2 b hb).1 hx, hoo.nd⟩ (fun b x hbg hbm hx => ?_), (HF.out.2.2.touch HTW.out fun b hb => by simp at hb; rw [hb]; exact ⟨hown.lo, hown.hi⟩).touch e2 fun b hb => ⟨(hoo.ls.blk hb).1, (hoo.ls.blk hb).2.1⟩⟩
            · rw [arOf_set, HF.out.1, hob, unA_set (k0 : Int) hko]
            · unfold blks at hbm
              simp only [List.mem_append, not_or] at hbm
              exact e2.block _ _ hbm.1.1 (HTW.out.block _ _ (by simpa using hbg) hx)
          have HE := hid_of HE0
          obtain ⟨a, c, el, hac, _⟩ := id HLW0
          have HLW := hid_of HLW0
          have HGB := hid_of HNE2.out.1
          have c1 := hc.c1
          have c2 := hc.c2
          have hls2 : (elAt fs' k).o.ls.length = 2 := by rw [hob]; exact ((HTD.out k hko).2 (by rw [← hob]; exact hkz))
          rw [hls2] at el hac
          have HNLS : Hid (2 = (elAt fs' k).o.ls.length) := hls2.symm
          clear HE0 HLW0 HDW0 HMW0 hap hne hob hown hoo hc HF hfl hko hls2
          clear HB1 HO1 HNE HNE2 HTW
          generalize elAt fs' k = q at *
          obtain ⟨o, ql, qd, qm⟩ := q
          simp only at el HGW HE HLW HGB c1 c2 HNLS
          subst el
          have kz : (o.kind == 0) = false := beq_eq_false_iff_ne.2 hkz
          clear hkz
          have qz : (o.into == (k0 : Int)) = true := beq_iff_eq.2 hz
          clear hz hgz
          have p10 : (W0.setCell ⟨g, k * 13 + 2, none⟩ (.int .i64 (-1))).cell? ⟨g, k * 13 + 10, none⟩ = some (.slice a 2 c) := (cell10_of HGW.out hkf)
          go_wp2
          clear p10
          try simp only [hd]
          go_loopw [8] (fun i w2 => ∃ n2 : Nat, n2 ≤ 2 ∧ i = .int .i64 n2 ∧ Hid (OwnI lo hi w2 (.slice a 2 c) (unL (k0 : Int) o.ls n2) ∧ Touch (Go.Proofs.YtbdljoldblpffaaGreat.blk (.slice a 2 c)) (W0.setCell ⟨g, k * 13 + 2, none⟩ (.int .i64 (-1))) w2)) (fun i _ => 2 - (intOf i).toNat)
          case atStart => exact ⟨0, Nat.zero_le _, rfl, by rw [unL_start]; exact HLW.out, touch_any _ _⟩
          case round =>
            obtain ⟨n2, hn2, rfl, hin⟩ := hrel
            by_cases hlt2 : n2 < 2
            · have hl2 : n2 < (unL (k0 : Int) o.ls n2).length := by rw [unL_length _ _ _ (by rw [← HNLS.out]; exact hn2), ← HNLS.out]; exact hlt2
              obtain ⟨b, rs, rfl, hb1, hb2, hrow, hlen2, hcc⟩ := hin.out.1.at hl2
              have cx := hrow.cell n2 hl2
              have fx := hrow.free n2
              rw [unL_at (k0 : Int) (by rw [← HNLS.out]; exact hlt2)] at cx
              have p10 : _ = some (Value.slice (some ⟨b, 0, none⟩) 2 c) := cell10_of (hin.out.2.block _ _ HGB.out HGW.out) hkf
              have hset := hin.out.1.setAt hl2 (-1)
              have HSM : Hid (o.ls.getD n2 0 = (k0 : Int) → (unL (k0 : Int) o.ls n2).set n2 (-1) = unL (k0 : Int) o.ls (n2 + 1)) := fun e => by
                have e1 := unL_set (k0 : Int) (xs := o.ls) (n := n2) (by rw [← HNLS.out]; exact hlt2)
                rw [show unN (k0 : Int) (o.ls.getD n2 0) = -1 from if_pos e] at e1
                exact e1
              have HNM : Hid (o.ls.getD n2 0 ≠ (k0 : Int) → unL (k0 : Int) o.ls n2 = unL (k0 : Int) o.ls (n2 + 1)) := fun e => unL_same (k0 : Int) (by rw [← HNLS.out]; exact hlt2) e
              generalize o.ls.getD n2 0 = x at cx HSM HNM
              have hn2i : (n2 : Int) < 2 := by omega
              clear hlen2
              by_cases hx : x = (k0 : Int)
              · have qx : (x == (k0 : Int)) = true := beq_iff_eq.2 hx
                have HI2 : Hid (OwnI lo hi (wr.setCell ⟨b, n2, none⟩ (.int .i64 (-1))) (.slice (some ⟨b, 0, none⟩) 2 c) (unL (k0 : Int) o.ls (n2 + 1)) ∧ Touch (Go.Proofs.YtbdljoldblpffaaGreat.blk (.slice (some ⟨b, 0, none⟩) 2 c)) (W0.setCell ⟨g, k * 13 + 2, none⟩ (.int .i64 (-1))) (wr.setCell ⟨b, n2, none⟩ (.int .i64 (-1)))) := ⟨by rw [← HSM.out hx]; exact hset.1, hin.out.2.trans hset.2⟩
                clear hx hset hin hrow HSM HNM hl2
                go_wp2
                go_roundw
                case rel => exact ⟨n2 + 1, by omega, by go_num, HI2⟩
                case measure => simp [intOf]; omega
              · have qx : (x == (k0 : Int)) = false := beq_eq_false_iff_ne.2 hx
                have HI2 : Hid (OwnI lo hi wr (.slice (some ⟨b, 0, none⟩) 2 c) (unL (k0 : Int) o.ls (n2 + 1)) ∧ Touch (Go.Proofs.YtbdljoldblpffaaGreat.blk (.slice (some ⟨b, 0, none⟩) 2 c)) (W0.setCell ⟨g, k * 13 + 2, none⟩ (.int .i64 (-1))) wr) := ⟨by rw [← HNM.out hx]; exact hin.out.1, hin.out.2⟩
                clear hx hset hin hrow HSM HNM hl2
                go_wp2
                go_roundw
                case rel => exact ⟨n2 + 1, by omega, by go_num, HI2⟩
                case measure => simp [intOf]; omega
            · have hke : n2 = 2 := by omega
              have HS := hid_of (HE.out wr (by have e := hin.out.1; rw [hke, HNLS.out, unL_end] at e; rw [← HNLS.out] at e; exact e) hin.out.2)
              clear hin
              subst hke
              go_wp2
              go_roundw
              case rel => exact ⟨k + 1, by omega, by go_num, HS⟩
              case measure => simp [intOf]; omega
        · have HGW : Hid (W0.heap[g]? = some (.cells (ecells (fs'.set k ⟨unO (k0 : Int) (elAt fs' k).o, (elAt fs' k).l, (elAt fs' k).d, (elAt fs' k).m⟩) ++ rest).toArray 55 (0, 0))) := by
            obtain ⟨A, B, hA, h1, h2⟩ := ecells_block hkf
            rw [hown.at', h1, h2]
            simp only [elV, unO, unN, if_neg hz]
            exact trivial
          have HTW : Hid (Touch [g] W0 W0) := touch_any _ _
          have HNE2 : Hid (g ∉ Go.Proofs.YtbdljoldblpffaaGreat.blk (elAt fs' k).l ∧ g ∉ Go.Proofs.YtbdljoldblpffaaGreat.blk (elAt fs' k).d ∧ g ∉ Go.Proofs.YtbdljoldblpffaaGreat.blk (elAt fs' k).m) := by
            have e := hne
            unfold blks at e
            simp only [List.mem_append, not_or] at e
            exact ⟨e.1.1, e.1.2, e.2⟩
          have hap := apart_ld hoo
          have HLW0 : OwnI lo hi W0 (elAt fs' k).l (elAt fs' k).o.ls := hoo.ls.keepIf fun b x hb hx => HTW.out.block _ _ (by simp; intro e; rw [e] at hb; exact HNE2.out.1 hb) hx
          have HDW0 : OwnI lo hi W0 (elAt fs' k).d (elAt fs' k).o.ds := hoo.ds.keepIf fun b x hb hx => HTW.out.block _ _ (by simp; intro e; rw [e] at hb; exact HNE2.out.2.1 hb) hx
          have HMW0 : OwnM lo hi W0 (elAt fs' k).m (elAt fs' k).o.qs := hoo.qs.keepIf fun b x hb hx => HTW.out.block _ _ (by simp; intro e; rw [e] at hb; exact HNE2.out.2.2 hb) hx
          have HE0 : ∀ w3, OwnI lo hi w3 (elAt fs' k).l ((elAt fs' k).o.ls.map (unN (k0 : Int))) → Touch (Go.Proofs.YtbdljoldblpffaaGreat.blk (elAt fs' k).l) W0 w3 → ∃ fs', arOf fs' = unA (k0 : Int) os (k + 1) ∧ OwnA g cap fs' rest lo hi w3 ∧ Turned8 lo hi Ws w3 := fun w3 e1 e2 => by
            refine ⟨_, ?_, hown.mark hkf (o' := unO (k0 : Int) (elAt fs' k).o) (e2.block _ _ HNE2.out.1 HGW.out) ⟨e1, HDW0.keepIf fun b x hb hx => e2.block _ _ (hap.1 b hb) hx, HMW0.keepIf fun b x hb hx => e2.block _ _ (hap.2 b hb).1 hx, hoo.nd⟩ (fun b x hbg hbm hx => ?_), (HF.out.2.2.touch HTW.out fun b hb => by simp at hb; rw [hb]; exact ⟨hown.lo, hown.hi⟩).touch e2 fun b hb => ⟨(hoo.ls.blk hb).1, (hoo.ls.blk hb).2.1⟩⟩
            · rw [arOf_set, HF.out.1, hob, unA_set (k0 : Int) hko]
            · unfold blks at hbm
              simp only [List.mem_append, not_or] at hbm
              exact e2.block _ _ hbm.1.1 (HTW.out.block _ _ (by simpa using hbg) hx)
          have HE := hid_of HE0
          obtain ⟨a, c, el, hac, _⟩ := id HLW0
          have HLW := hid_of HLW0
          have HGB := hid_of HNE2.out.1
          have c1 := hc.c1
          have c2 := hc.c2
          have hls2 : (elAt fs' k).o.ls.length = 2 := by rw [hob]; exact ((HTD.out k hko).2 (by rw [← hob]; exact hkz))
          rw [hls2] at el hac
          have HNLS : Hid (2 = (elAt fs' k).o.ls.length) := hls2.symm
          clear HE0 HLW0 HDW0 HMW0 hap hne hob hown hoo hc HF hfl hko hls2
          clear HB1 HO1 HNE HNE2 HTW
          generalize elAt fs' k = q at *
          obtain ⟨o, ql, qd, qm⟩ := q
          simp only at el HGW HE HLW HGB c1 c2 HNLS
          subst el
          have kz : (o.kind == 0) = false := beq_eq_false_iff_ne.2 hkz
          clear hkz
          have qz : (o.into == (k0 : Int)) = false := beq_eq_false_iff_ne.2 hz
          clear hz hgz hfr2
          have p10 : W0.cell? ⟨g, k * 13 + 10, none⟩ = some (.slice a 2 c) := (cell10_of HGW.out hkf)
          go_wp2
          clear p10
          try simp only [hd]
          go_loopw [8] (fun i w2 => ∃ n2 : Nat, n2 ≤ 2 ∧ i = .int .i64 n2 ∧ Hid (OwnI lo hi w2 (.slice a 2 c) (unL (k0 : Int) o.ls n2) ∧ Touch (Go.Proofs.YtbdljoldblpffaaGreat.blk (.slice a 2 c)) W0 w2)) (fun i _ => 2 - (intOf i).toNat)
          case atStart => exact ⟨0, Nat.zero_le _, rfl, by rw [unL_start]; exact HLW.out, touch_any _ _⟩
          case round =>
            obtain ⟨n2, hn2, rfl, hin⟩ := hrel
            by_cases hlt2 : n2 < 2
            · have hl2 : n2 < (unL (k0 : Int) o.ls n2).length := by rw [unL_length _ _ _ (by rw [← HNLS.out]; exact hn2), ← HNLS.out]; exact hlt2
              obtain ⟨b, rs, rfl, hb1, hb2, hrow, hlen2, hcc⟩ := hin.out.1.at hl2
              have cx := hrow.cell n2 hl2
              have fx := hrow.free n2
              rw [unL_at (k0 : Int) (by rw [← HNLS.out]; exact hlt2)] at cx
              have p10 : _ = some (Value.slice (some ⟨b, 0, none⟩) 2 c) := cell10_of (hin.out.2.block _ _ HGB.out HGW.out) hkf
              have hset := hin.out.1.setAt hl2 (-1)
              have HSM : Hid (o.ls.getD n2 0 = (k0 : Int) → (unL (k0 : Int) o.ls n2).set n2 (-1) = unL (k0 : Int) o.ls (n2 + 1)) := fun e => by
                have e1 := unL_set (k0 : Int) (xs := o.ls) (n := n2) (by rw [← HNLS.out]; exact hlt2)
                rw [show unN (k0 : Int) (o.ls.getD n2 0) = -1 from if_pos e] at e1
                exact e1
              have HNM : Hid (o.ls.getD n2 0 ≠ (k0 : Int) → unL (k0 : Int) o.ls n2 = unL (k0 : Int) o.ls (n2 + 1)) := fun e => unL_same (k0 : Int) (by rw [← HNLS.out]; exact hlt2) e
              generalize o.ls.getD n2 0 = x at cx HSM HNM
              have hn2i : (n2 : Int) < 2 := by omega
              clear hlen2
              by_cases hx : x = (k0 : Int)
              · have qx : (x == (k0 : Int)) = true := beq_iff_eq.2 hx
                have HI2 : Hid (OwnI lo hi (wr.setCell ⟨b, n2, none⟩ (.int .i64 (-1))) (.slice (some ⟨b, 0, none⟩) 2 c) (unL (k0 : Int) o.ls (n2 + 1)) ∧ Touch (Go.Proofs.YtbdljoldblpffaaGreat.blk (.slice (some ⟨b, 0, none⟩) 2 c)) W0 (wr.setCell ⟨b, n2, none⟩ (.int .i64 (-1)))) := ⟨by rw [← HSM.out hx]; exact hset.1, hin.out.2.trans hset.2⟩
                clear hx hset hin hrow HSM HNM hl2
                go_wp2
                go_roundw
                case rel => exact ⟨n2 + 1, by omega, by go_num, HI2⟩
                case measure => simp [intOf]; omega
              · have qx : (x == (k0 : Int)) = false := beq_eq_false_iff_ne.2 hx
                have HI2 : Hid (OwnI lo hi wr (.slice (some ⟨b, 0, none⟩) 2 c) (unL (k0 : Int) o.ls (n2 + 1)) ∧ Touch (Go.Proofs.YtbdljoldblpffaaGreat.blk (.slice (some ⟨b, 0, none⟩) 2 c)) W0 wr) := ⟨by rw [← HNM.out hx]; exact hin.out.1, hin.out.2⟩
                clear hx hset hin hrow HSM HNM hl2
                go_wp2
                go_roundw
                case rel => exact ⟨n2 + 1, by omega, by go_num, HI2⟩
                case measure => simp [intOf]; omega
            · have hke : n2 = 2 := by omega
              have HS := hid_of (HE.out wr (by have e := hin.out.1; rw [hke, HNLS.out, unL_end] at e; rw [← HNLS.out] at e; exact e) hin.out.2)
              clear hin
              subst hke
              go_wp2
              go_roundw
              case rel => exact ⟨k + 1, by omega, by go_num, HS⟩
              case measure => simp [intOf]; omega
    · obtain rfl : 10 = k := by omega
      have HE : Hid (∃ fs', arOf fs' = os.map (unO (k0 : Int)) ∧ OwnA g cap fs' rest w.heap.size wr.heap.size wr ∧ Below w.heap.size w wr) := by
        obtain ⟨fs', h1, h2, h3⟩ := hs.out
        rw [← HOL.out, unA_end] at h1
        rw [← HLO.out]
        exact ⟨fs', h1, h2.fit, h3.below _ _ (Nat.le_refl _) HBS.out⟩
      clear hs
      go_wp2
      go_returns
      obtain ⟨fs', h1, h2, h3⟩ := HE.out
      exact ⟨g, cap, fs', rest, by rw [List.length_map, HOL.out]; rfl, h1, h2, h3⟩
theorem inB_one (i : Int) : inB i 1 9 = (inB i 0 9 && !(i == 0)) := by
  by_cases h : i = 0
  · subst h; rfl
  · have e : (i == 0) = false := beq_eq_false_iff_ne.2 h
    rw [e]
    unfold inB
    simp only [Bool.not_false, Bool.and_true]
    congr 1
    exact decide_eq_decide.2 (by omega)
set_option maxRecDepth 100000 in
set_option maxHeartbeats 4000000 in
theorem specFree_any (v : Value) (os : List Ob) (i : Int) (w : World) (hx : IsArena w v os) (hn : os.length ≤ 1048576) (hs : Small8 os) (hf : AllFit os) :
    Calls Tryz.prog 40 #[v, .int .i64 i] w fun e w' => FreeAns (freeOf os i) (freeB os i) w e w' := by
  have HC : Hid (∀ w', Below w.heap.size w w' → Calls Tryz.prog 48 #[v] w' fun e w'' => ArenaOwn os w' e w'') := fun w' hb => specCopyA_any _ os w' (hx.on hb) hn hs
  have HA : Hid (∀ w', Below w.heap.size w w' → Calls Tryz.prog 49 #[v] w' fun e w'' => e = .returned (.bool (arenaOk os)) ∧ Below w'.heap.size w' w'') := fun w' hb => specArenaOk_any _ os w' (hx.on hb) hn hs hf
  have CI := fun w => l1In_b i 1 9 w
  cases hv : arenaOk os with
  | false =>
    have e1 : freeB os i = false := by unfold freeB; rw [hv]; rfl
    have e2 : freeOf os i = os := by unfold freeOf; rw [e1]; rfl
    rw [e1, e2]
    simp only [hv] at HA
    clear hv e1 e2 CI hx
    go_enter Tryz.func40, Tryz.ntmps40
    go_wp2_with fail
    refine (HC.out _ (Below.refl _ _)).mono ?_
    rintro e w1 ⟨g, c, fs, rest, rfl, hfs, hown, hb1⟩
    have HOWN : Hid (arOf fs = os ∧ OwnA g c fs rest w.heap.size w1.heap.size w1) := ⟨hfs, hown⟩
    have HB1 : Hid (Below w.heap.size w w1) := hb1
    clear hfs hown hb1
    go_wp2_with fail
    refine (HA.out _ HB1.out).mono ?_
    rintro e w2 ⟨rfl, hb2⟩
    have HB2 : Hid (Below w1.heap.size w1 w2) := hb2
    clear hb2
    go_wp2
    go_returns
    exact ⟨g, c, fs, rest, rfl, HOWN.out.1, (HOWN.out.2.on HB2.out).wide (Nat.le_refl _) HB2.out.size, below_more HB1.out HB2.out⟩
  | true =>
    simp only [hv] at HA
    have hlen : os.length = 10 := by unfold arenaOk at hv; simp only [Bool.and_eq_true, decide_eq_true_eq] at hv; exact hv.1
    cases hi : inB i 1 9 with
    | false =>
      have e1 : freeB os i = false := by
        have e := inB_one i
        rw [hi] at e
        unfold freeB
        rw [hv]
        cases h1 : inB i 0 9 with
        | false => rfl
        | true =>
          rw [h1] at e
          have e3 : (i == 0) = true := by simpa using e.symm
          rw [e3]; rfl
      have e2 : freeOf os i = os := by unfold freeOf; rw [e1]; rfl
      rw [e1, e2]
      simp only [hi] at CI
      clear hv e1 e2 hx hi hlen
      go_enter Tryz.func40, Tryz.ntmps40
      go_wp2_with fail
      refine (HC.out _ (Below.refl _ _)).mono ?_
      rintro e w1 ⟨g, c, fs, rest, rfl, hfs, hown, hb1⟩
      have HOWN : Hid (arOf fs = os ∧ OwnA g c fs rest w.heap.size w1.heap.size w1) := ⟨hfs, hown⟩
      have HB1 : Hid (Below w.heap.size w w1) := hb1
      clear hfs hown hb1
      go_wp2_with fail
      refine (HA.out _ HB1.out).mono ?_
      rintro e w2 ⟨rfl, hb2⟩
      have HB2 : Hid (Below w1.heap.size w1 w2) := hb2
      clear hb2
      go_wp2_with fail
      refine (CI _).mono ?_
      rintro e w3 ⟨rfl, rfl⟩
      go_wp2
      go_returns
      exact ⟨g, c, fs, rest, rfl, HOWN.out.1, (HOWN.out.2.on HB2.out).wide (Nat.le_refl _) HB2.out.size, below_more HB1.out HB2.out⟩
    | true =>
      have hib := inB_true hi
      obtain ⟨k, rfl⟩ : ∃ k : Nat, i = k := ⟨i.toNat, by omega⟩
      have qz : ((k : Int) == 0) = false := beq_eq_false_iff_ne.2 (by omega)
      have q9 : inB (k : Int) 0 9 = true := inB_yes (by omega) (by omega)
      by_cases hkz : (obAt os k).kind = 0
      · have e1 : freeB os k = false := by unfold freeB; rw [hv, q9, qz]; simp [hkz]
        have e2 : freeOf os k = os := by unfold freeOf; rw [e1]; rfl
        rw [e1, e2]
        simp only [hi] at CI
        have hk : k < os.length := by omega
        have hcap : os.length ≤ 1048576 := hn
        have HX : Hid (∀ w', Below w.heap.size w w' → IsArena w' v os) := fun w' hb => hx.on hb
        obtain ⟨a, cap, rfl, hcap, _⟩ := id hx
        have HKZ := hid_of hkz
        clear hv e1 e2 hx hi hlen hib q9 qz hkz
        go_enter Tryz.func40, Tryz.ntmps40
        go_wp2_with fail
        refine (HC.out _ (Below.refl _ _)).mono ?_
        rintro e w1 ⟨g, c, fs, rest, rfl, hfs, hown, hb1⟩
        have HOWN : Hid (arOf fs = os ∧ OwnA g c fs rest w.heap.size w1.heap.size w1) := ⟨hfs, hown⟩
        have HB1 : Hid (Below w.heap.size w w1) := hb1
        clear hfs hown hb1
        go_wp2_with fail
        refine (HA.out _ HB1.out).mono ?_
        rintro e w2 ⟨rfl, hb2⟩
        have HB2 : Hid (Below w1.heap.size w1 w2) := hb2
        clear hb2
        obtain ⟨p, q, l, d, m, rfl, hq, hcs, -⟩ := (HX.out w2 (below_more HB1.out HB2.out)).at hk
        have c1 := hcs.c1
        rw [HKZ.out] at c1
        clear hcs
        go_wp2_with fail
        refine (CI _).mono ?_
        rintro e w3 ⟨rfl, rfl⟩
        go_wp2
        go_returns
        exact ⟨g, c, fs, rest, rfl, HOWN.out.1, (HOWN.out.2.on HB2.out).wide (Nat.le_refl _) HB2.out.size, below_more HB1.out HB2.out⟩
      · have qk : ((obAt os k).kind == 0) = false := beq_eq_false_iff_ne.2 hkz
        have e1 : freeB os k = true := by unfold freeB; rw [hv, q9, qz, Int.toNat_natCast, qk]; rfl
        have e2 : freeOf os k = (os.set k (newO (obAt os k).gen)).map (unO k) := by unfold freeOf; rw [e1, Int.toNat_natCast]; rfl
        rw [e1, e2]
        obtain ⟨a, cap, rfl, _, hel⟩ := id hx
        obtain ⟨p, _, _, _, rfl, _⟩ := hel 0 (by omega)
        rw [hlen] at hx ⊢
        exact specFree_go p cap os k w hx hv hs hf (by omega) (by omega) hkz
end Go.Proofs.YtbdljoldblpffaaGreat
