/-
  What is told of handles; the law, walked.
-/
import Derived.Test.YtidmgkgmdndglaaDrawH
import Derived.Test.YtidmgkgmdndglaaHandI
import Derived.Test.YtidmgkgmdndglaaBig8
namespace Go.Proofs.Ytidmgkgmdndglaa
open Go.RowKit
set_option linter.unusedVariables false

theorem handle_told {p s g : Int} (h : handleB p s g = true) : 0 ≤ handleOf p s g ∧ handlePart (handleOf p s g) = p ∧ handleSlot (handleOf p s g) = s ∧ handleGen (handleOf p s g) = g := by
  obtain ⟨⟨a, b⟩, ⟨c, d⟩, e, f⟩ := handle_up h
  have e1 : handleOf p s g = (g * 10 + s) * 3 + p := by unfold handleOf; rw [h]; rfl
  rw [e1]
  have e2 : isHandle ((g * 10 + s) * 3 + p) = true := inB_yes (by omega) (by omega)
  unfold handlePart handleSlot handleGen
  rw [e2]
  simp only [if_true]
  omega
theorem handle_none {p s g : Int} (h : handleB p s g = false) : handleOf p s g = -1 := by unfold handleOf; rw [h]; rfl
theorem number_told {n : Int} (h : isHandle n = true) : 0 ≤ handlePart n ∧ handleOf (handlePart n) (handleSlot n) (handleGen n) = n := by
  have hb := inB_true h
  have e1 : handlePart n = n % 3 := by unfold handlePart; rw [h]; rfl
  have e2 : handleSlot n = n / 3 % 10 := by unfold handleSlot; rw [h]; rfl
  have e3 : handleGen n = n / 3 / 10 := by unfold handleGen; rw [h]; rfl
  rw [e1, e2, e3]
  have e4 : handleB (n % 3) (n / 3 % 10) (n / 3 / 10) = true := by
    unfold handleB
    rw [inB_yes (by omega) (by omega), inB_yes (by omega) (by omega), inB_yes (by omega) (by omega)]; rfl
  unfold handleOf
  rw [e4]
  simp only [if_true]
  omega
theorem number_none {n : Int} (h : isHandle n = false) : handlePart n = -1 ∧ handleSlot n = -1 ∧ handleGen n = -1 := by
  unfold handlePart handleSlot handleGen
  rw [h]
  exact ⟨rfl, rfl, rfl⟩
set_option maxRecDepth 100000 in
set_option maxHeartbeats 4000000 in
theorem walkHandles (w : World) (a : Option Addr) (len cap : Nat) (cb : Nat → Nat) (hc : Code0 w a len cb) :
    Calls Try.prog 3 #[.slice a len cap] w fun e w' => e = .returned (.bool true) ∧ Below w.heap.size w w' := by
  have C := big_no w a len cap (by have := hc.small; omega)
  have CD := drawOf_any w a len cap cb hc
  have HD : Hid (∀ w', Below w.heap.size w w' → Calls Try.prog 10 #[.slice a len cap] w' fun e w'' => (∃ n : Int, e = .returned (.int .i64 n)) ∧ Below w'.heap.size w' w'') := fun w' hb => drawPart_any w' a len cap cb (hc.on hb)
  clear hc
  go_enter Try.func3, Try.ntmps3
  go_wp2_with fail
  refine C.mono ?_
  rintro e w0 ⟨rfl, rfl⟩
  clear C
  go_wp2_with fail
  refine CD.mono ?_
  rintro e w1 ⟨⟨p, s, g, rfl⟩, hb⟩
  have HB1 := hid_of hb
  have CO1 := fun w => implHandleOf_any p s g w
  have CP1 := fun w => implHandlePart_any (handleOf p s g) w
  have CS1 := fun w => implHandleSlot_any (handleOf p s g) w
  have CG1 := fun w => implHandleGen_any (handleOf p s g) w
  clear hb CD
  cases hB : handleB p s g with
  | true =>
    obtain ⟨h0, h1, h2, h3⟩ := handle_told hB
    rw [h1] at CP1
    rw [h2] at CS1
    rw [h3] at CG1
    generalize handleOf p s g = h at CO1 CP1 CS1 CG1 h0
    have hp : (p != p) = false := by simp
    have hs : (s != s) = false := by simp
    have hg : (g != g) = false := by simp
    clear hB h1 h2 h3
    go_wp2_with fail
    refine (CO1 _).mono ?_
    rintro e w3 ⟨rfl, rfl⟩
    go_wp2_with fail
    refine (CP1 _).mono ?_
    rintro e w3 ⟨rfl, rfl⟩
    go_wp2_with fail
    refine (CS1 _).mono ?_
    rintro e w3 ⟨rfl, rfl⟩
    go_wp2_with fail
    refine (CG1 _).mono ?_
    rintro e w3 ⟨rfl, rfl⟩
    clear CO1 CP1 CS1 CG1 hp hs hg h0
    go_wp2_with fail
    refine (HD.out _ HB1.out).mono ?_
    rintro e w2 ⟨⟨n, rfl⟩, hb⟩
    have HB2 := hid_of (below_more HB1.out hb)
    have CP := fun w => implHandlePart_any n w
    have CS := fun w => implHandleSlot_any n w
    have CG := fun w => implHandleGen_any n w
    have CO := fun w => implHandleOf_any (handlePart n) (handleSlot n) (handleGen n) w
    clear hb HB1 HD
    cases hn : isHandle n with
    | true =>
      obtain ⟨h0, h1⟩ := number_told hn
      rw [h1] at CO
      generalize handlePart n = pp at CP CO h0
      generalize handleSlot n = ss at CS CO
      generalize handleGen n = gg at CG CO
      have hlt : ¬ (pp < 0) := by omega
      have hnn : (n == n) = true := by simp
      clear hn h0 h1
      go_wp2_with fail
      refine (CP _).mono ?_
      rintro e w3 ⟨rfl, rfl⟩
      go_wp2_with fail
      refine (CP _).mono ?_
      rintro e w3 ⟨rfl, rfl⟩
      go_wp2_with fail
      refine (CS _).mono ?_
      rintro e w3 ⟨rfl, rfl⟩
      go_wp2_with fail
      refine (CG _).mono ?_
      rintro e w3 ⟨rfl, rfl⟩
      go_wp2_with fail
      refine (CO _).mono ?_
      rintro e w3 ⟨rfl, rfl⟩
      go_wp2
      go_ret
      exact ⟨rfl, HB2.out⟩
    | false =>
      obtain ⟨h0, h1, h2⟩ := number_none hn
      rw [h0] at CP
      rw [h1] at CS
      rw [h2] at CG
      clear hn h0 h1 h2 CO
      go_wp2_with fail
      refine (CP _).mono ?_
      rintro e w3 ⟨rfl, rfl⟩
      go_wp2_with fail
      refine (CS _).mono ?_
      rintro e w3 ⟨rfl, rfl⟩
      go_wp2_with fail
      refine (CG _).mono ?_
      rintro e w3 ⟨rfl, rfl⟩
      go_wp2
      go_ret
      exact ⟨rfl, HB2.out⟩
  | false =>
    rw [handle_none hB] at CO1
    clear hB CP1 CS1 CG1
    go_wp2_with fail
    refine (CO1 _).mono ?_
    rintro e w3 ⟨rfl, rfl⟩
    clear CO1
    go_wp2_with fail
    refine (HD.out _ HB1.out).mono ?_
    rintro e w2 ⟨⟨n, rfl⟩, hb⟩
    have HB2 := hid_of (below_more HB1.out hb)
    have CP := fun w => implHandlePart_any n w
    have CS := fun w => implHandleSlot_any n w
    have CG := fun w => implHandleGen_any n w
    have CO := fun w => implHandleOf_any (handlePart n) (handleSlot n) (handleGen n) w
    clear hb HB1 HD
    cases hn : isHandle n with
    | true =>
      obtain ⟨h0, h1⟩ := number_told hn
      rw [h1] at CO
      generalize handlePart n = pp at CP CO h0
      generalize handleSlot n = ss at CS CO
      generalize handleGen n = gg at CG CO
      have hlt : ¬ (pp < 0) := by omega
      have hnn : (n == n) = true := by simp
      clear hn h0 h1
      go_wp2_with fail
      refine (CP _).mono ?_
      rintro e w3 ⟨rfl, rfl⟩
      go_wp2_with fail
      refine (CP _).mono ?_
      rintro e w3 ⟨rfl, rfl⟩
      go_wp2_with fail
      refine (CS _).mono ?_
      rintro e w3 ⟨rfl, rfl⟩
      go_wp2_with fail
      refine (CG _).mono ?_
      rintro e w3 ⟨rfl, rfl⟩
      go_wp2_with fail
      refine (CO _).mono ?_
      rintro e w3 ⟨rfl, rfl⟩
      go_wp2
      go_ret
      exact ⟨rfl, HB2.out⟩
    | false =>
      obtain ⟨h0, h1, h2⟩ := number_none hn
      rw [h0] at CP
      rw [h1] at CS
      rw [h2] at CG
      clear hn h0 h1 h2 CO
      go_wp2_with fail
      refine (CP _).mono ?_
      rintro e w3 ⟨rfl, rfl⟩
      go_wp2_with fail
      refine (CS _).mono ?_
      rintro e w3 ⟨rfl, rfl⟩
      go_wp2_with fail
      refine (CG _).mono ?_
      rintro e w3 ⟨rfl, rfl⟩
      go_wp2
      go_ret
      exact ⟨rfl, HB2.out⟩
end Go.Proofs.Ytidmgkgmdndglaa
