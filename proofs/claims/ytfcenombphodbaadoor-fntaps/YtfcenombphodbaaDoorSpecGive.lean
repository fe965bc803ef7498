/-
  The model's TreeNew, TreeGive and TreeSplit.
-/
import Derived.Test.YtfcenombphodbaaDoorSpecBack
namespace Go.Proofs.YtfcenombphodbaaDoor
open Go.RowKit
set_option linter.unusedVariables false
set_option maxRecDepth 100000

/-- What TreeNew makes. -/
def newT (a b c : Int) : List Re := if amtOk a b c then [⟨true, -1, a, b, c⟩, noRe, noRe, noRe, noRe] else []
set_option maxHeartbeats 2000000 in
theorem specNew_any (a b c : Int) (w : World) :
    Calls Tryd.prog 66 #[amt a b c] w fun e w' => TreeAns (newT a b c).length (newT a b c) (amtOk a b c) w e w' := by
  have CA := fun w => specAmtOk_in a b c w
  cases hok : amtOk a b c with
  | false =>
    rw [hok] at CA
    have e1 : newT a b c = [] := by simp [newT, hok]
    rw [e1]
    clear hok e1
    have HO : Hid (OwnT (w.heap.size + 1 + 1) 0 [] [] w.heap.size (((w.alloc (boxA a b c)).alloc (boxA a b c)).alloc (.cells #[] 39 (0, 0))).heap.size (((w.alloc (boxA a b c)).alloc (boxA a b c)).alloc (.cells #[] 39 (0, 0)))) := by
      refine ⟨?_, Nat.le_refl _, by omega, by simp⟩
      have h := heap_alloc_new ((w.alloc (boxA a b c)).alloc (boxA a b c)) (.cells #[] 39 (0, 0))
      simpa [TreeIn, rcells] using h
    go_enter Tryd.func66, Tryd.ntmps66
    go_wp2_with fail
    refine (CA _).mono ?_
    rintro e w1 ⟨rfl, rfl⟩
    go_wp2
    go_returns
    exact ⟨_, _, _, rfl, HO.out, by go_grown⟩
  | true =>
    rw [hok] at CA
    have e1 : newT a b c = [⟨true, -1, a, b, c⟩, noRe, noRe, noRe, noRe] := by simp [newT, hok]
    rw [e1]
    clear hok e1
    obtain ⟨W0, hW0⟩ : ∃ W0, W0 = (w.alloc (boxA a b c)).alloc (boxA a b c) := ⟨_, rfl⟩
    have hm : (Instr.makeSlice 32 (.int .i64 5) (.int .i64 5)).run Tryd.prog W0 = .ok (.slice (some ⟨W0.heap.size, 0, none⟩) 5 5) (W0.alloc (.cells (rcells (List.replicate 5 noRe)).toArray 39 (0, 0))) := make_tree 5 (by decide) W0
    have hta : TreeAt (W0.alloc (.cells (rcells (List.replicate 5 noRe)).toArray 39 (0, 0))) W0.heap.size (List.replicate 5 noRe) := heap_alloc_new W0 _
    have hbx : Box3 (W0.alloc (.cells (rcells (List.replicate 5 noRe)).toArray 39 (0, 0))) w.heap.size 37 a b c := by
      have h0 : Box3 (w.alloc (boxA a b c)) w.heap.size 37 a b c := ⟨heap_alloc_new w _⟩
      have h1 := box_on h0 (below_alloc _ (boxA a b c))
      rw [← hW0] at h1
      exact box_on h1 (below_alloc _ _)
    have hbw : Below w.heap.size w (W0.alloc (.cells (rcells (List.replicate 5 noRe)).toArray 39 (0, 0))) := by
      have : Below w.heap.size w W0 := by rw [hW0]; go_grown
      exact below_more this (below_alloc _ _)
    have hsz : w.heap.size ≤ W0.heap.size := by rw [hW0]; simp; omega
    obtain ⟨W, hW⟩ : ∃ W, W = W0.alloc (.cells (rcells (List.replicate 5 noRe)).toArray 39 (0, 0)) := ⟨_, rfl⟩
    rw [← hW] at hm hta hbx hbw
    have sp := hta.spare 0 (by simp)
    have st := hta.set 0 (by simp) ⟨true, -1, a, b, c⟩
    obtain ⟨⟨u0, d0⟩, ⟨u1, d1⟩, ⟨u2, d2⟩, ⟨u3, d3⟩, ⟨u4, d4⟩, hf⟩ := sp
    simp only [Nat.zero_mul, Nat.zero_add] at d0 d1 d2 d3 d4 st
    obtain ⟨g, hg⟩ : ∃ g, g = W0.heap.size := ⟨_, rfl⟩
    rw [← hg] at hm d0 d1 d2 d3 d4 st hf hsz
    have f0 := hf 0
    have f1 := hf 1
    have f2 := hf 2
    have f3 := hf 3
    have f4 := hf 4
    have HT : Hid (OwnT g 5 [⟨true, -1, a, b, c⟩, noRe, noRe, noRe, noRe] [] w.heap.size (w5 W g 0 true (-1) a b c).heap.size (w5 W g 0 true (-1) a b c)) := by
      refine ⟨?_, by simp, hsz, lt_of_block st⟩
      unfold TreeIn
      rw [List.append_nil]
      exact st
    have HBW : Hid (Below w.heap.size w (w5 W g 0 true (-1) a b c)) := below_w5 hbw hsz _ _ _ _ _
    have k0 := hbx.c0
    have k1 := hbx.c1
    have k2 := hbx.c2
    clear hta hbx hbw hW st hf hg
    go_enter Tryd.func66, Tryd.ntmps66
    go_wp2_with fail
    refine (CA _).mono ?_
    rintro e w1 ⟨rfl, hw1⟩
    rw [← hW0] at hw1
    subst hw1
    clear CA hW0
    go_wp2
    go_returns
    exact ⟨g, 5, [], rfl, HT.out, HBW.out⟩

/-- What TreeGive answers. -/
def giveOk0 (ts : List Re) (i k : Int) (a b c : Int) : Bool := liveIn ts k && payOk ts i a b c
def giveOf (ts : List Re) (i k : Int) (a b c : Int) : List Re := if giveOk0 ts i k a b c then backOf (payT ts i a b c) k a b c else ts
def giveOk (ts : List Re) (i k : Int) (a b c : Int) : Bool := giveOk0 ts i k a b c && backOk (payT ts i a b c) a b c
theorem payT_length (ts : List Re) (i a b c : Int) : (payT ts i a b c).length = ts.length := by simp [payT]
end Go.Proofs.YtfcenombphodbaaDoor
