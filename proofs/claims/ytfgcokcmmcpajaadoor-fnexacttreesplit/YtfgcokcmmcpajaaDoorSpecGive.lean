/-
  The model's TreeNew, TreeGive and TreeSplit.
-/
import Derived.Test.YtfgcokcmmcpajaaDoorSpecBack
namespace Go.Proofs.YtfgcokcmmcpajaaDoor
open Go.RowKit
set_option linter.unusedVariables false
set_option maxRecDepth 100000

/-- What TreeNew makes. -/
def newT (a b c : Int) : List Re := if amtOk a b c then [⟨true, -1, a, b, c⟩, noRe, noRe, noRe, noRe] else []
set_option maxHeartbeats 2000000 in
theorem specNew_any (a b c : Int) (w : World) :
    Calls Tryd.prog 66 #[amt a b c] w fun e w' => TreeAns (newT a b c).length (newT a b c) (amtOk a b c) w e w' := by
  have CA := fun w => specAmtOk_in a b c w
  cases hok : amtOk a b c with
  | false =>
    rw [hok] at CA
    have e1 : newT a b c = [] := by simp [newT, hok]
    rw [e1]
    clear hok e1
    have HO : Hid (OwnT (w.heap.size + 1 + 1) 0 [] [] w.heap.size (((w.alloc (boxA a b c)).alloc (boxA a b c)).alloc (.cells #[] 34 (0, 0))).heap.size (((w.alloc (boxA a b c)).alloc (boxA a b c)).alloc (.cells #[] 34 (0, 0)))) := by
      refine ⟨?_, Nat.le_refl _, by omega, by simp⟩
      have h := heap_alloc_new ((w.alloc (boxA a b c)).alloc (boxA a b c)) (.cells #[] 34 (0, 0))
      simpa [TreeIn, rcells] using h
    go_enter Tryd.func66, Tryd.ntmps66
    go_wp2_with fail
    refine (CA _).mono ?_
    rintro e w1 ⟨rfl, rfl⟩
    go_wp2
    go_returns
    exact ⟨_, _, _, rfl, HO.out, by go_grown⟩
  | true =>
    rw [hok] at CA
    have e1 : newT a b c = [⟨true, -1, a, b, c⟩, noRe, noRe, noRe, noRe] := by simp [newT, hok]
    rw [e1]
    clear hok e1
    obtain ⟨W0, hW0⟩ : ∃ W0, W0 = (w.alloc (boxA a b c)).alloc (boxA a b c) := ⟨_, rfl⟩
    have hm : (Instr.makeSlice 24 (.int .i64 5) (.int .i64 5)).run Tryd.prog W0 = .ok (.slice (some ⟨W0.heap.size, 0, none⟩) 5 5) (W0.alloc (.cells (rcells (List.replicate 5 noRe)).toArray 34 (0, 0))) := make_tree 5 (by decide) W0
    have hta : TreeAt (W0.alloc (.cells (rcells (List.replicate 5 noRe)).toArray 34 (0, 0))) W0.heap.size (List.replicate 5 noRe) := heap_alloc_new W0 _
    have hbx : Box3 (W0.alloc (.cells (rcells (List.replicate 5 noRe)).toArray 34 (0, 0))) w.heap.size 26 a b c := by
      have h0 : Box3 (w.alloc (boxA a b c)) w.heap.size 26 a b c := ⟨heap_alloc_new w _⟩
      have h1 := box_on h0 (below_alloc _ (boxA a b c))
      rw [← hW0] at h1
      exact box_on h1 (below_alloc _ _)
    have hbw : Below w.heap.size w (W0.alloc (.cells (rcells (List.replicate 5 noRe)).toArray 34 (0, 0))) := by
      have : Below w.heap.size w W0 := by rw [hW0]; go_grown
      exact below_more this (below_alloc _ _)
    have hsz : w.heap.size ≤ W0.heap.size := by rw [hW0]; simp; omega
    obtain ⟨W, hW⟩ : ∃ W, W = W0.alloc (.cells (rcells (List.replicate 5 noRe)).toArray 34 (0, 0)) := ⟨_, rfl⟩
    rw [← hW] at hm hta hbx hbw
    have sp := hta.spare 0 (by simp)
    have st := hta.set 0 (by simp) ⟨true, -1, a, b, c⟩
    obtain ⟨⟨u0, d0⟩, ⟨u1, d1⟩, ⟨u2, d2⟩, ⟨u3, d3⟩, ⟨u4, d4⟩, hf⟩ := sp
    simp only [Nat.zero_mul, Nat.zero_add] at d0 d1 d2 d3 d4 st
    obtain ⟨g, hg⟩ : ∃ g, g = W0.heap.size := ⟨_, rfl⟩
    rw [← hg] at hm d0 d1 d2 d3 d4 st hf hsz
    have f0 := hf 0
    have f1 := hf 1
    have f2 := hf 2
    have f3 := hf 3
    have f4 := hf 4
    have HT : Hid (OwnT g 5 [⟨true, -1, a, b, c⟩, noRe, noRe, noRe, noRe] [] w.heap.size (w5 W g 0 true (-1) a b c).heap.size (w5 W g 0 true (-1) a b c)) := by
      refine ⟨?_, by simp, hsz, lt_of_block st⟩
      unfold TreeIn
      rw [List.append_nil]
      exact st
    have HBW : Hid (Below w.heap.size w (w5 W g 0 true (-1) a b c)) := below_w5 hbw hsz _ _ _ _ _
    have k0 := hbx.c0
    have k1 := hbx.c1
    have k2 := hbx.c2
    clear hta hbx hbw hW st hf hg
    go_enter Tryd.func66, Tryd.ntmps66
    go_wp2_with fail
    refine (CA _).mono ?_
    rintro e w1 ⟨rfl, hw1⟩
    rw [← hW0] at hw1
    subst hw1
    clear CA hW0
    go_wp2
    go_returns
    exact ⟨g, 5, [], rfl, HT.out, HBW.out⟩

/-- What TreeGive answers. -/
def giveOk0 (ts : List Re) (i k : Int) (a b c : Int) : Bool := liveIn ts k && payOk ts i a b c
def giveOf (ts : List Re) (i k : Int) (a b c : Int) : List Re := if giveOk0 ts i k a b c then backOf (payT ts i a b c) k a b c else ts
def giveOk (ts : List Re) (i k : Int) (a b c : Int) : Bool := giveOk0 ts i k a b c && backOk (payT ts i a b c) a b c
theorem payT_length (ts : List Re) (i a b c : Int) : (payT ts i a b c).length = ts.length := by simp [payT]
set_option maxHeartbeats 2000000 in
theorem specGive_any (p : Addr) (cap : Nat) (ts : List Re) (i k a b c : Int) (w : World) (hx : IsTree w (.slice (some p) ts.length cap) ts) (hn : ts.length ≤ 1048576) :
    Calls Tryd.prog 26 #[.slice (some p) ts.length cap, .int .i64 i, .int .i64 k, amt a b c] w fun e w' => TreeAns ts.length (giveOf ts i k a b c) (giveOk ts i k a b c) w e w' := by
  have hb0 : Below w.heap.size w (w.alloc (boxA a b c)) := below_alloc w _
  have HX0 : Hid (Box3 (w.alloc (boxA a b c)) w.heap.size 26 a b c) := ⟨heap_alloc_new w _⟩
  have HB0 : Hid (Below w.heap.size w (w.alloc (boxA a b c))) := hb0
  have HCC : Hid (∀ w', Below w.heap.size w w' → _) := fun w' hb => specCopy_any p ts.length cap ts w' (hx.on hb) rfl hn
  have HCL : Hid (∀ w', Below w.heap.size w w' → Calls Tryd.prog 47 #[.slice (some p) ts.length cap, .int .i64 k] w' fun e w'' => e = .returned (.bool (liveIn ts k)) ∧ Below w'.heap.size w' w'') := fun w' hb => specLive_any _ ts k w' (hx.on hb) hn
  have HCP : Hid (∀ w', Below w.heap.size w w' → Calls Tryd.prog 43 #[.slice (some p) ts.length cap, .int .i64 i, amt a b c] w' fun e w'' => TreeAns ts.length (payOf ts i a b c) (payOk ts i a b c) w' e w'') := fun w' hb => specPay_any p cap ts i a b c w' (hx.on hb) hn
  clear hx hb0
  cases hlive : liveIn ts k with
  | false =>
    have e0 : giveOk0 ts i k a b c = false := by simp [giveOk0, hlive]
    have e1 : giveOf ts i k a b c = ts := by simp [giveOf, e0]
    have e2 : giveOk ts i k a b c = false := by simp [giveOk, e0]
    rw [e1, e2]
    rw [hlive] at HCL
    clear hlive e0 e1 e2 HCP
    go_enter Tryd.func26, Tryd.ntmps26
    go_wp2_with fail
    refine (HCL.out _ HB0.out).mono ?_
    rintro e w1 ⟨rfl, hb⟩
    have HB1 : Hid (Below w.heap.size w w1) := below_more HB0.out hb
    clear HCL hb
    go_wp2_with fail
    refine (HCC.out _ HB1.out).mono ?_
    rintro e w2 ⟨g, c1, rs, rfl, ho, hb⟩
    have HB2 : Hid (Below w.heap.size w w2) := below_more HB1.out hb
    have HO := hid_of (ho.lower HB1.out.size)
    clear HCC hb ho HB1
    go_wp2
    go_returns
    exact ⟨g, c1, rs, rfl, HO.out, HB2.out⟩
  | true =>
    rw [hlive] at HCL
    cases hpay : payOk ts i a b c with
    | false =>
      have e0 : giveOk0 ts i k a b c = false := by simp [giveOk0, hpay]
      have e1 : giveOf ts i k a b c = ts := by simp [giveOf, e0]
      have e2 : giveOk ts i k a b c = false := by simp [giveOk, e0]
      have e3 : payOf ts i a b c = ts := by simp [payOf, hpay]
      rw [e1, e2]
      rw [hpay, e3] at HCP
      clear hlive e0 e1 e2 e3 hpay
      go_enter Tryd.func26, Tryd.ntmps26
      go_wp2_with fail
      refine (HCL.out _ HB0.out).mono ?_
      rintro e w1 ⟨rfl, hb⟩
      have HB1 : Hid (Below w.heap.size w w1) := below_more HB0.out hb
      have b1 := box_on HX0.out hb
      have k0 := b1.c0
      have k1 := b1.c1
      have k2 := b1.c2
      clear HCL hb b1
      go_wp2_with fail
      refine (HCP.out _ HB1.out).mono ?_
      rintro e w2 ⟨g, c1, rs, rfl, ho, hb⟩
      have HB2 : Hid (Below w.heap.size w w2) := below_more HB1.out hb
      clear HCP hb ho HB1 k0 k1 k2
      go_wp2_with fail
      refine (HCC.out _ HB2.out).mono ?_
      rintro e w3 ⟨g3, c3, rs3, rfl, ho, hb⟩
      have HB3 : Hid (Below w.heap.size w w3) := below_more HB2.out hb
      have HO := hid_of (ho.lower HB2.out.size)
      clear HCC hb ho HB2
      go_wp2
      go_returns
      exact ⟨g3, c3, rs3, rfl, HO.out, HB3.out⟩
    | true =>
      have e0 : giveOk0 ts i k a b c = true := by simp [giveOk0, hlive, hpay]
      have e1 : giveOf ts i k a b c = backOf (payT ts i a b c) k a b c := by simp [giveOf, e0]
      have e2 : giveOk ts i k a b c = backOk (payT ts i a b c) a b c := by simp [giveOk, e0]
      have e3 : payOf ts i a b c = payT ts i a b c := by simp [payOf, hpay]
      have hlen := payT_length ts i a b c
      have HCB : Hid (∀ g c1 w', IsTree w' (.slice (some ⟨g, 0, none⟩) ts.length c1) (payT ts i a b c) → Calls Tryd.prog 48 #[.slice (some ⟨g, 0, none⟩) ts.length c1, .int .i64 k, amt a b c] w' fun e w'' => TreeAns ts.length (backOf (payT ts i a b c) k a b c) (backOk (payT ts i a b c) a b c) w' e w'') := fun g c1 w' h => by
        have := specBack_any ⟨g, 0, none⟩ c1 (payT ts i a b c) k a b c w' (by rw [hlen]; exact h) (by rw [hlen]; exact hn)
        rw [hlen] at this
        exact this
      have HLN : Hid ((payT ts i a b c).length = ts.length) := hlen
      rw [e1, e2]
      rw [hpay, e3] at HCP
      generalize payT ts i a b c = ps at HCP HCB HLN
      generalize backOf ps k a b c = bs at HCB ⊢
      generalize backOk ps a b c = bo at HCB ⊢
      clear hlive e0 e1 e2 e3 hpay hlen
      go_enter Tryd.func26, Tryd.ntmps26
      go_wp2_with fail
      refine (HCL.out _ HB0.out).mono ?_
      rintro e w1 ⟨rfl, hb⟩
      have HB1 : Hid (Below w.heap.size w w1) := below_more HB0.out hb
      have HX1 := hid_of (box_on HX0.out hb)
      have k0 := HX1.out.c0
      have k1 := HX1.out.c1
      have k2 := HX1.out.c2
      clear HCL hb
      go_wp2_with fail
      refine (HCP.out _ HB1.out).mono ?_
      rintro e w2 ⟨g, c1, rs, rfl, ho, hb⟩
      have HB2 : Hid (Below w.heap.size w w2) := below_more HB1.out hb
      have HTR : Hid (IsTree w2 (.slice (some ⟨g, 0, none⟩) ts.length c1) ps) := by
        have := ho.tree
        rw [HLN.out] at this
        exact this
      have b2 := box_on HX1.out hb
      clear HCP hb ho HB1 k0 k1 k2
      have k0 := b2.c0
      have k1 := b2.c1
      have k2 := b2.c2
      clear b2
      go_wp2_with fail
      refine (HCB.out g c1 _ HTR.out).mono ?_
      rintro e w3 ⟨g3, c3, rs3, rfl, ho, hb⟩
      have HB3 : Hid (Below w.heap.size w w3) := below_more HB2.out hb
      have HO := hid_of (ho.lower HB2.out.size)
      clear HCB hb ho HB2 k0 k1 k2 HTR
      go_wp2
      go_returns
      exact ⟨g3, c3, rs3, rfl, HO.out, HB3.out⟩
end Go.Proofs.YtfgcokcmmcpajaaDoor
