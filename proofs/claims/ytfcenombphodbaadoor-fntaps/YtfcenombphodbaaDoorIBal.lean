/-
  The program's sum over those that live; its TreeOk, TreeSum.
-/
import Derived.Test.YtfcenombphodbaaDoorIOk
namespace Go.Proofs.YtfcenombphodbaaDoor
open Go.RowKit
set_option linter.unusedVariables false
set_option maxRecDepth 100000

abbrev boxR (l : Bool) (p a b c : Int) : Obj := .cells #[.bool l, .int .i64 p, .int .i64 a, .int .i64 b, .int .i64 c] 39 (0, 0)
def balS (f : Re → Int) (ts : List Re) : Int := if balOk ts 5 then sumN f ts 5 else 0
theorem balOk_no {ts : List Re} : ∀ k, balOk ts k = false → ∀ j, k ≤ j → balOk ts j = false := by
  intro k h j hj
  induction j with
  | zero => have : k = 0 := by omega
            subst this; exact h
  | succ j ih =>
    by_cases he : k = j + 1
    · subst he; exact h
    · simp only [balOk]; rw [ih (by omega)]; rfl
set_option maxRecDepth 100000 in
set_option maxHeartbeats 8000000 in
theorem implBal_any (a : Option Addr) (cap : Nat) (ts : List Re) (w : World) (hx : IsTree w (.slice a 5 cap) ts) (hl : ts.length = 5) (hcap : 5 ≤ cap) :
    Calls Tryd.prog 62 #[.slice a 5 cap] w fun e w' => e = .returned (.tuple #[amt (balS Re.a ts) (balS Re.b ts) (balS Re.c ts), .bool (balOk ts 5)]) ∧ Below w.heap.size w w' := by
  obtain ⟨ya, hya⟩ : ∃ y, y = balS Re.a ts := ⟨_, rfl⟩
  obtain ⟨yb, hyb⟩ : ∃ y, y = balS Re.b ts := ⟨_, rfl⟩
  obtain ⟨yc, hyc⟩ : ∃ y, y = balS Re.c ts := ⟨_, rfl⟩
  obtain ⟨o, ho⟩ : ∃ y, y = balOk ts 5 := ⟨_, rfl⟩
  have HFAIL : Hid (balOk ts 5 = false → ya = 0 ∧ yb = 0 ∧ yc = 0 ∧ o = false) := fun h => by simp [hya, hyb, hyc, ho, balS, h]
  have HDONE : Hid (balOk ts 5 = true → ya = sumN Re.a ts 5 ∧ yb = sumN Re.b ts 5 ∧ yc = sumN Re.c ts 5 ∧ o = true) := fun h => by simp [hya, hyb, hyc, ho, balS, h]
  rw [← hya, ← hyb, ← hyc, ← ho]
  clear hya hyb hyc ho
  have HX : Hid (IsTree w (.slice a 5 cap) ts) := hx
  have HL : Hid (ts.length = 5) := hl
  have HB0 : Hid (Box3 ((w.alloc (boxA 0 0 0)).alloc (boxA 0 0 0)) w.heap.size 37 0 0 0 ∧ Below w.heap.size w ((w.alloc (boxA 0 0 0)).alloc (boxA 0 0 0)) ∧ Box3 ((w.alloc (boxA 0 0 0)).alloc (boxA 0 0 0)) (w.heap.size + 1) 37 (sumN Re.a ts 0) (sumN Re.b ts 0) (sumN Re.c ts 0)) := by
    have h := heap_alloc_new (w.alloc (boxA 0 0 0)) (boxA 0 0 0)
    rw [show (w.alloc (boxA 0 0 0)).heap.size = w.heap.size + 1 by simp] at h
    exact ⟨⟨by rw [heap_alloc_old _ _ (by simp)]; exact heap_alloc_new w _⟩, by go_grown, ⟨h⟩⟩
  clear hx hl
  go_enter Tryd.func62, Tryd.ntmps62
  go_wp2
  go_loopw [12] (fun i wr => ∃ k : Nat, k ≤ 5 ∧ i = .int .i64 k ∧ Hid (balOk ts k = true) ∧ Hid (Box3 wr w.heap.size 37 0 0 0 ∧ Below w.heap.size w wr ∧ Box3 wr (w.heap.size + 1) 37 (sumN Re.a ts k) (sumN Re.b ts k) (sumN Re.c ts k))) (fun i _ => 5 - (intOf i).toNat)
  case atStart => exact ⟨0, Nat.zero_le _, rfl, hid_of rfl, HB0⟩
  case round =>
    obtain ⟨k, hk, rfl, HI, HB⟩ := hrel
    clear HB0
    by_cases hlt : k < 5
    · obtain ⟨p, q, rfl, hq, hcw⟩ := HX.out.at (i := k) (by rw [HL.out]; exact hlt)
      obtain ⟨c0, c1, c2, c3, c4⟩ := hcw.on HB.out.2.1
      have HSUM : Hid (∀ r, reAt ts k = r → r.live = true → sumN Re.a ts (k + 1) = sumN Re.a ts k + r.a ∧ sumN Re.b ts (k + 1) = sumN Re.b ts k + r.b ∧ sumN Re.c ts (k + 1) = sumN Re.c ts k + r.c) := fun r hr h => by simp [sumN, hr, h]
      have HSAM : Hid ((reAt ts k).live = false → sumN Re.a ts (k + 1) = sumN Re.a ts k ∧ sumN Re.b ts (k + 1) = sumN Re.b ts k ∧ sumN Re.c ts (k + 1) = sumN Re.c ts k ∧ balOk ts (k + 1) = true) := fun h => by simp [sumN, h, balOk, HI.out]
      have HBAL : Hid (∀ r, reAt ts k = r → r.live = true → balOk ts (k + 1) = addOk (sumN Re.a ts k) (sumN Re.b ts k) (sumN Re.c ts k) r.a r.b r.c) := fun r hr h => by simp [balOk, hr, h, HI.out]
      have HK : Hid (balOk ts (k + 1) = false → balOk ts 5 = false) := fun h => balOk_no (k + 1) h 5 (by omega)
      obtain ⟨r, hr⟩ : ∃ r, reAt ts k = r := ⟨_, rfl⟩
      rw [hr] at c0 c1 c2 c3 c4 HSAM
      replace HSUM := hid_of (HSUM.out r hr)
      replace HBAL := hid_of (HBAL.out r hr)
      clear hr hcw
      obtain ⟨l, p1, ra, rb, rc⟩ := r
      simp only at c0 c1 c2 c3 c4 HSUM HBAL HSAM
      have hba : Below wr.heap.size wr (wr.alloc (boxR l p1 ra rb rc)) := below_alloc wr _
      have HB' : Hid (Box3 (wr.alloc (boxR l p1 ra rb rc)) w.heap.size 37 0 0 0 ∧ Below w.heap.size w (wr.alloc (boxR l p1 ra rb rc)) ∧ Box3 (wr.alloc (boxR l p1 ra rb rc)) (w.heap.size + 1) 37 (sumN Re.a ts k) (sumN Re.b ts k) (sumN Re.c ts k)) := ⟨box_on HB.out.1 hba, below_more HB.out.2.1 hba, box_on HB.out.2.2 hba⟩
      clear hba
      cases l with
      | false =>
        have HS := hid_of (HSAM.out rfl)
        clear HSAM HSUM HBAL HK HI
        go_wp2
        go_roundw
        case rel => exact ⟨k + 1, by omega, by go_num, hid_of HS.out.2.2.2, by rw [HS.out.1, HS.out.2.1, HS.out.2.2.1]; exact HB'⟩
        case measure => simp [intOf]; omega
      | true =>
        replace HSUM := hid_of (HSUM.out rfl)
        replace HBAL := hid_of (HBAL.out rfl)
        generalize sumN Re.a ts k = sa at HSUM HBAL HB' HSAM HB
        generalize sumN Re.b ts k = sb at HSUM HBAL HB' HSAM HB
        generalize sumN Re.c ts k = sc at HSUM HBAL HB' HSAM HB
        have HZ1 := hid_of HB'.out.1
        have HB1 := hid_of HB'.out.2.1
        have HS1 := hid_of HB'.out.2.2
        clear HB'
        cases hadd : addOk sa sb sc ra rb rc with
        | false =>
          have HNO : Hid (false = false → ya = 0 ∧ yb = 0 ∧ yc = 0 ∧ o = false) := fun _ => HFAIL.out (HK.out (by rw [HBAL.out, hadd]))
          have HYES : Hid True := trivial
          have CA := fun w => implAdd_no sa sb sc ra rb rc w hadd
          clear HSUM HBAL HK HI HFAIL HDONE hadd
          have k0 := HS1.out.c0
          have k1 := HS1.out.c1
          have k2 := HS1.out.c2
          go_wp2_with fail
          refine (CA _).mono ?_
          rintro e wn ⟨rfl, hb⟩
          have HB2 : Hid (Below w.heap.size w wn) := below_more HB1.out hb
          have HZ2 : Hid (Box3 wn w.heap.size 37 0 0 0) := box_on HZ1.out hb
          have HS2 : Hid (Box3 wn (w.heap.size + 1) 37 sa sb sc) := box_on HS1.out hb
          clear CA hb k0 k1 k2 c0 c1 c2 c3 c4 HB HSAM hq
          have HG := HNO.out (by trivial)
          have HZ3 : Hid (Box3 (wn.alloc (boxA sa sb sc)) w.heap.size 37 0 0 0) := box_on HZ2.out (below_alloc _ _)
          have HB3 : Hid (Below w.heap.size w (wn.alloc (boxA sa sb sc))) := below_more HB2.out (below_alloc _ _)
          clear HB1 HZ1 HS1 HS2 HYES HNO HZ2 HB2
          have r0 := HZ3.out.c0
          have r1 := HZ3.out.c1
          have r2 := HZ3.out.c2
          have f0 := HZ3.out.f0 0
          have f1 := HZ3.out.f0 1
          have f2 := HZ3.out.f0 2
          have HP := hid_of (HZ3.out.put (.int .i64 0) (.int .i64 0) (.int .i64 0))
          go_wp2
          obtain ⟨p0, p1, p2⟩ := HP.out
          refine bodyPost_ret (v := .tuple #[amt 0 0 0, .bool false]) (by simp [results, go_sem, p0, p1, p2]) rfl ⟨by rw [HG.1, HG.2.1, HG.2.2.1, HG.2.2.2], below_put HB3.out (Nat.le_refl _) _ _ _⟩
        | true =>
          have HNO : Hid True := trivial
          obtain ⟨xa, hxa⟩ : ∃ y, y = sa + ra := ⟨_, rfl⟩
          obtain ⟨xb, hxb⟩ : ∃ y, y = sb + rb := ⟨_, rfl⟩
          obtain ⟨xc, hxc⟩ : ∃ y, y = sc + rc := ⟨_, rfl⟩
          have HYES : Hid (true = true → (sumN Re.a ts (k + 1) = xa ∧ sumN Re.b ts (k + 1) = xb ∧ sumN Re.c ts (k + 1) = xc) ∧ balOk ts (k + 1) = true) := fun _ => by
            rw [hxa, hxb, hxc]
            exact ⟨HSUM.out, by rw [HBAL.out, hadd]⟩
          have CA := fun w => implAdd_yes sa sb sc ra rb rc w hadd
          rw [← hxa, ← hxb, ← hxc] at CA
          clear HSUM HBAL HK HI hadd hxa hxb hxc
          have k0 := HS1.out.c0
          have k1 := HS1.out.c1
          have k2 := HS1.out.c2
          go_wp2_with fail
          refine (CA _).mono ?_
          rintro e wn ⟨rfl, hb⟩
          have HB2 : Hid (Below w.heap.size w wn) := below_more HB1.out hb
          have HZ2 : Hid (Box3 wn w.heap.size 37 0 0 0) := box_on HZ1.out hb
          have HS2 : Hid (Box3 wn (w.heap.size + 1) 37 sa sb sc) := box_on HS1.out hb
          clear CA hb k0 k1 k2 c0 c1 c2 c3 c4 HB HSAM hq
          have HG := hid_of (HYES.out (by trivial))
          obtain ⟨w3, hw3⟩ : ∃ x, x = wn.alloc (boxA xa xb xc) := ⟨_, rfl⟩
          have HZ3 : Hid (Box3 w3 w.heap.size 37 0 0 0) := by rw [hw3]; exact box_on HZ2.out (below_alloc _ _)
          have HS3 : Hid (Box3 w3 (w.heap.size + 1) 37 sa sb sc) := by rw [hw3]; exact box_on HS2.out (below_alloc _ _)
          have HB3 : Hid (Below w.heap.size w w3) := by rw [hw3]; exact below_more HB2.out (below_alloc _ _)
          have HE : Hid (Box3 (((w3.setCell ⟨w.heap.size + 1, 0, none⟩ (.int .i64 xa)).setCell ⟨w.heap.size + 1, 1, none⟩ (.int .i64 xb)).setCell ⟨w.heap.size + 1, 2, none⟩ (.int .i64 xc)) w.heap.size 37 0 0 0 ∧ Below w.heap.size w (((w3.setCell ⟨w.heap.size + 1, 0, none⟩ (.int .i64 xa)).setCell ⟨w.heap.size + 1, 1, none⟩ (.int .i64 xb)).setCell ⟨w.heap.size + 1, 2, none⟩ (.int .i64 xc)) ∧ Box3 (((w3.setCell ⟨w.heap.size + 1, 0, none⟩ (.int .i64 xa)).setCell ⟨w.heap.size + 1, 1, none⟩ (.int .i64 xb)).setCell ⟨w.heap.size + 1, 2, none⟩ (.int .i64 xc)) (w.heap.size + 1) 37 xa xb xc) :=
            ⟨box3_away (box3_away (box3_away HZ3.out (by omega) _) (by omega) _) (by omega) _, ((HB3.out.setCell (p := ⟨w.heap.size + 1, 0, none⟩) (by show w.heap.size ≤ w.heap.size + 1; omega) _).setCell (p := ⟨w.heap.size + 1, 1, none⟩) (by show w.heap.size ≤ w.heap.size + 1; omega) _).setCell (p := ⟨w.heap.size + 1, 2, none⟩) (by show w.heap.size ≤ w.heap.size + 1; omega) _, box3_set2 (box3_set1 (box3_set0 HS3.out _) _) _⟩
          rw [hw3] at HS3 HE
          have r0 := HS3.out.c0
          have r1 := HS3.out.c1
          have r2 := HS3.out.c2
          have f0 := HS3.out.f0 0
          have f1 := HS3.out.f0 1
          have f2 := HS3.out.f0 2
          clear HB1 HZ1 HS1 HS2 HB2 HZ2 HYES HNO HZ3 HS3 HB3 hw3
          go_wp2
          go_roundw
          case rel => exact ⟨k + 1, by omega, by go_num, hid_of HG.out.2, by rw [HG.out.1.1, HG.out.1.2.1, HG.out.1.2.2]; exact HE⟩
          case measure => simp [intOf]; omega
    · obtain rfl : k = 5 := by omega
      have HD := hid_of (HDONE.out HI.out)
      have HZ2 := hid_of HB.out.1
      have HB2 := hid_of HB.out.2.1
      have HS2 := hid_of HB.out.2.2
      have hya := HD.out.1
      have hyb := HD.out.2.1
      have hyc := HD.out.2.2.1
      rw [← hya, ← hyb, ← hyc] at HS2
      clear HFAIL HDONE hya hyb hyc
      have k0 := HS2.out.c0
      have k1 := HS2.out.c1
      have k2 := HS2.out.c2
      have r0 := HZ2.out.c0
      have r1 := HZ2.out.c1
      have r2 := HZ2.out.c2
      have f0 := HZ2.out.f0 0
      have f1 := HZ2.out.f0 1
      have f2 := HZ2.out.f0 2
      have HP := hid_of (HZ2.out.put (.int .i64 ya) (.int .i64 yb) (.int .i64 yc))
      clear HB HI
      go_wp2
      obtain ⟨p0, p1, p2⟩ := HP.out
      refine bodyPost_ret (v := .tuple #[amt ya yb yc, .bool true]) (by simp [results, go_sem, p0, p1, p2]) rfl ⟨by rw [HD.out.2.2.2], below_put HB2.out (Nat.le_refl _) _ _ _⟩
end Go.Proofs.YtfcenombphodbaaDoor
