/-
  The first place that is not Live; what TreeSplit answers; the model's TreeSplit.
-/
import Derived.Test.YtfcenombphodbaaDoorMathGive
namespace Go.Proofs.YtfcenombphodbaaDoor
open Go.RowKit
set_option linter.unusedVariables false
set_option maxRecDepth 100000

def freeAt (ts : List Re) : Nat := ts.findIdx (fun r => !r.live)
structure FreeAt (ts : List Re) (k : Nat) : Prop where
  lt : k < ts.length
  no : (reAt ts k).live = false
  before : ∀ j, j < k → (reAt ts j).live = true
def NoFree (ts : List Re) : Prop := ∀ j, j < ts.length → (reAt ts j).live = true
theorem reAt_get (ts : List Re) (i : Nat) (h : i < ts.length) : reAt ts i = ts[i] := by simp [reAt, h]
theorem free_or (ts : List Re) : (NoFree ts ∧ freeAt ts = ts.length) ∨ (FreeAt ts (freeAt ts)) := by
  by_cases h : freeAt ts < ts.length
  · right
    refine ⟨h, ?_, fun j hj => ?_⟩
    · have h2 : (!(ts[freeAt ts]'h).live) = true := List.findIdx_getElem (p := fun r : Re => !r.live) (xs := ts) (w := h)
      rw [reAt_get ts _ h]
      simpa using h2
    · have := List.not_of_lt_findIdx (p := fun r : Re => !r.live) (xs := ts) (i := j) hj
      rw [reAt_get ts j (by omega)]
      simpa using this
  · left
    have hle : freeAt ts ≤ ts.length := List.findIdx_le_length
    have he : freeAt ts = ts.length := by omega
    refine ⟨fun j hj => ?_, he⟩
    have := List.not_of_lt_findIdx (p := fun r : Re => !r.live) (xs := ts) (i := j) (by unfold freeAt at he; omega)
    rw [reAt_get ts j hj]
    simpa using this
def splitOk (ts : List Re) (i a b c : Int) : Bool := payOk ts i a b c && decide (freeAt ts < ts.length)
def splitK (ts : List Re) (i a b c : Int) : Int := if splitOk ts i a b c then (freeAt ts : Int) else 0
def splitOf (ts : List Re) (i a b c : Int) : List Re := if splitOk ts i a b c then (payT ts i a b c).set (freeAt ts) ⟨true, i, a, b, c⟩ else ts
theorem splitOf_length (ts : List Re) (i a b c : Int) : (splitOf ts i a b c).length = ts.length := by
  unfold splitOf; split
  · simp [payT]
  · rfl
def SplitAns (n : Nat) (ts : List Re) (k : Int) (o : Bool) (w : World) (e : Ending) (w' : World) : Prop := ∃ g c rs, e = .returned (.tuple #[.slice (some ⟨g, 0, none⟩) n c, .int .i64 k, .bool o]) ∧ OwnT g c ts rs w.heap.size w'.heap.size w' ∧ Below w.heap.size w w'
theorem SplitAns.form {n : Nat} {ns : List Re} {k : Int} {o : Bool} {w w' : World} {e : Ending} (h : SplitAns n ns k o w e w') (hn : n = ns.length) : SplitAns ns.length ns k o w e w' := hn ▸ h
theorem split_no {ts : List Re} {i a b c : Int} (h : splitOk ts i a b c = false) : splitOf ts i a b c = ts ∧ splitK ts i a b c = 0 := by simp [splitOf, splitK, h]
theorem split_yes {ts : List Re} {i a b c : Int} (h : splitOk ts i a b c = true) : splitOf ts i a b c = (payT ts i a b c).set (freeAt ts) ⟨true, i, a, b, c⟩ ∧ splitK ts i a b c = (freeAt ts : Int) := by simp [splitOf, splitK, h]
set_option maxRecDepth 100000 in
set_option maxHeartbeats 4000000 in
theorem specSplit_any (p : Addr) (cap : Nat) (ts : List Re) (i0 a b c : Int) (w : World) (hx : IsTree w (.slice (some p) ts.length cap) ts) (hn : ts.length ≤ 1048576) :
    Calls Tryd.prog 70 #[.slice (some p) ts.length cap, .int .i64 i0, amt a b c] w fun e w' => SplitAns ts.length (splitOf ts i0 a b c) (splitK ts i0 a b c) (splitOk ts i0 a b c) w e w' := by
  have hb0 : Below w.heap.size w (w.alloc (boxA a b c)) := below_alloc w _
  have CP := specPay_any p cap ts i0 a b c (w.alloc (boxA a b c)) (hx.on hb0) hn
  have HCC : Hid (∀ w', Below w.heap.size w w' → Calls Tryd.prog 58 #[.slice (some p) ts.length cap] w' fun e w'' => CopyOf ts ts.length w' e w'') := fun w' hb => specCopy_any p ts.length cap ts w' (hx.on hb) rfl hn
  have HX0 : Hid (Box3 (w.alloc (boxA a b c)) w.heap.size 37 a b c) := ⟨heap_alloc_new w _⟩
  have HB0 : Hid (Below w.heap.size w (w.alloc (boxA a b c))) := hb0
  have HN : Hid (ts.length ≤ 1048576) := hn
  clear hx hb0
  cases hp : payOk ts i0 a b c with
  | false =>
    have e1 : splitOk ts i0 a b c = false := by simp [splitOk, hp]
    rw [e1, (split_no e1).1, (split_no e1).2]
    rw [hp] at CP
    generalize payOf ts i0 a b c = ps at CP
    clear hp e1
    go_enter Tryd.func70, Tryd.ntmps70
    go_wp2_with fail
    refine CP.mono ?_
    rintro e w1 ⟨g, c1', rs, rfl, ho, hb⟩
    have HB1 := hid_of (below_more HB0.out hb)
    clear CP hb ho HX0 HB0
    go_wp2_with fail
    refine (HCC.out w1 HB1.out).mono ?_
    rintro e w2 ⟨g2, c2, rs2, rfl, ho, hb⟩
    have HB2 := hid_of (below_more HB1.out hb)
    have HO2 := hid_of (ho.lower HB1.out.size)
    clear hb ho HCC HB1
    go_wp2
    go_returns
    exact ⟨g2, c2, rs2, rfl, HO2.out, HB2.out⟩
  | true =>
    have e2 : payOf ts i0 a b c = payT ts i0 a b c := by simp [payOf, hp]
    rw [hp, e2] at CP
    obtain ⟨m, rfl, hpa⟩ := payAt_of hp
    have hsh := shape_pay hpa
    obtain ⟨us1, hus1⟩ : ∃ u, u = payT ts (m : Int) a b c := ⟨_, rfl⟩
    rw [← hus1] at CP hsh
    have HUL : Hid (us1.length = ts.length) := hsh.1
    rcases free_or ts with ⟨hno, hfl⟩ | hf
    · have e1 : splitOk ts (m : Int) a b c = false := by simp [splitOk, hfl]
      rw [e1, (split_no e1).1, (split_no e1).2]
      have HLV : Hid (∀ j, j < ts.length → (reAt us1 j).live = true) := fun j hj => by rw [(hsh.2 j).1]; exact hno j hj
      clear hp e1 e2 hpa hsh hno hfl hus1
      go_enter Tryd.func70, Tryd.ntmps70
      go_wp2_with fail
      refine CP.mono ?_
      rintro e w1 ⟨g, c1', rs, rfl, ho, hb⟩
      have HB1 := hid_of (below_more HB0.out hb)
      have HT1 := hid_of ho.at'
      have hlc : (ts.length : Int) ≤ (c1' : Int) := by have := ho.cap; have := HUL.out; omega
      clear CP hb ho HX0 HB0
      go_wp2
      go_loop [11] (fun i => ∃ k : Nat, k ≤ ts.length ∧ i = .int .i64 k) (fun i => ts.length - (intOf i).toNat)
      case atStart => exact ⟨0, Nat.zero_le _, rfl⟩
      case round =>
        obtain ⟨k, hk, rfl⟩ := hrel
        by_cases hlt : k < ts.length
        · have d := HT1.out.cell k (by rw [HUL.out]; exact hlt)
          have c0 := d.c0
          rw [HLV.out k hlt] at c0
          have hki : (k : Int) < (ts.length : Int) := by omega
          clear d
          go_wp2
          exact ⟨⟨k + 1, by omega, by go_num⟩, by simp [intOf]; omega⟩
        · obtain rfl : k = ts.length := by omega
          go_wp2_with fail
          refine (HCC.out w1 HB1.out).mono ?_
          rintro e w2 ⟨g2, c2, rs2, rfl, ho, hb⟩
          have HB2 := hid_of (below_more HB1.out hb)
          have HO2 := hid_of (ho.lower HB1.out.size)
          clear hb ho HCC HB1
          go_wp2
          go_returns
          exact ⟨g2, c2, rs2, rfl, HO2.out, HB2.out⟩
    · have e1 : splitOk ts (m : Int) a b c = true := by simp [splitOk, hp, hf.lt]
      rw [e1, (split_yes e1).1, (split_yes e1).2, ← hus1]
      obtain ⟨F, hF⟩ : ∃ F, F = freeAt ts := ⟨_, rfl⟩
      rw [← hF] at hf ⊢
      have HF : Hid (F < ts.length ∧ (reAt us1 F).live = false ∧ ∀ j, j < F → (reAt us1 j).live = true) := ⟨hf.lt, by rw [(hsh.2 F).1]; exact hf.no, fun j hj => by rw [(hsh.2 j).1]; exact hf.before j hj⟩
      clear hp e1 e2 hpa hsh hF hf hus1
      go_enter Tryd.func70, Tryd.ntmps70
      go_wp2_with fail
      refine CP.mono ?_
      rintro e w1 ⟨g, c1', rs, rfl, ho, hb⟩
      have HB1 := hid_of (below_more HB0.out hb)
      have HT1 := hid_of ho.at'
      have HLO := hid_of (Nat.le_trans HB0.out.size ho.lo)
      have HX1 := hid_of (box_on HX0.out hb)
      have HCAP : Hid (us1.length ≤ c1') := ho.cap
      have hlc : (ts.length : Int) ≤ (c1' : Int) := by have := ho.cap; have := HUL.out; omega
      clear CP hb ho HX0 HB0
      go_wp2
      go_loop [11] (fun i => ∃ k : Nat, k ≤ F ∧ i = .int .i64 k) (fun i => ts.length - (intOf i).toNat)
      case atStart => exact ⟨0, Nat.zero_le _, rfl⟩
      case round =>
        obtain ⟨k, hk, rfl⟩ := hrel
        have hkl : k < ts.length := by have := HF.out.1; omega
        have d := HT1.out.cell k (by rw [HUL.out]; exact hkl)
        have c0 := d.c0
        have hki : (k : Int) < (ts.length : Int) := by omega
        by_cases hlt : k < F
        · rw [HF.out.2.2 k hlt] at c0
          clear d
          go_wp2
          exact ⟨⟨k + 1, by omega, by go_num⟩, by simp [intOf]; omega⟩
        · obtain rfl : k = F := by omega
          have c1 := d.c1
          have c2 := d.c2
          have c3 := d.c3
          have c4 := d.c4
          rw [HF.out.2.1] at c0
          have j0 := HT1.out.free (k * 5)
          have j1 := HT1.out.free (k * 5 + 1)
          have j2 := HT1.out.free (k * 5 + 2)
          have j3 := HT1.out.free (k * 5 + 3)
          have j4 := HT1.out.free (k * 5 + 4)
          have k0 := HX1.out.c0
          have k1 := HX1.out.c1
          have k2 := HX1.out.c2
          have t5 := HT1.out.set5 k (by rw [HUL.out]; exact hkl) true (m : Int) a b c
          have HE : Hid (OwnT g c1' (us1.set k ⟨true, (m : Int), a, b, c⟩) rs w.heap.size (w5 w1 g (k * 5) true (m : Int) a b c).heap.size (w5 w1 g (k * 5) true (m : Int) a b c)) := ⟨t5, by simpa using HCAP.out, HLO.out, lt_of_block t5⟩
          have HBE : Hid (Below w.heap.size w (w5 w1 g (k * 5) true (m : Int) a b c)) := below_w5 HB1.out HLO.out _ _ _ _ _
          generalize (reAt us1 k).par = o1 at c1
          generalize (reAt us1 k).a = o2 at c2
          generalize (reAt us1 k).b = o3 at c3
          generalize (reAt us1 k).c = o4 at c4
          clear d t5 HB1 HT1 HX1 HCC
          go_wp2
          go_returns
          exact ⟨g, c1', rs, rfl, HE.out, HBE.out⟩
end Go.Proofs.YtfcenombphodbaaDoor
