/-
  Fixed answers as its model at every number and every width. No condition.
-/
import Derived.Test.YtkjabochhhalhahVar
import Derived.Test.YtkjabochhhalhahMathFixed
namespace Go.Proofs.Ytkjabochhhalhah
open Go.ChangeShapes Go.WideShapes Go.ChangeAt Go.RowKit
set_option linter.unusedVariables false

def fixedOf (W N : Nat) : List UInt8 := if 0 < N / 256 ^ W then [] else fx W N
theorem fixedOf_no {W N : Nat} (h : 0 < N / 256 ^ W) : fixedOf W N = [] := if_pos h
theorem fixedOf_yes {W N : Nat} (h : ¬ 0 < N / 256 ^ W) : fixedOf W N = fx W N := if_neg h
theorem shr_eq (N j : Nat) : (N : Int) / 2 ^ (8 * j) = ((N / 256 ^ j : Nat) : Int) := by
  rw [← two_pow8]; simp
theorem cat_bytes (a b : List UInt8) : (⟨a.toArray⟩ : ByteArray) ++ ⟨b.toArray⟩ = ⟨(a ++ b).toArray⟩ := by
  apply ByteArray.ext
  rw [ByteArray.data_append]
  simp

set_option maxRecDepth 100000 in
set_option maxHeartbeats 400000 in
theorem specFixed_yes (N W : Nat) (w : World) (hN : N ≤ 9223372036854775807) (h1 : 1 ≤ W) (h7 : W ≤ 7) :
    Calls Try.prog 8 #[.int .i64 N, .int .i64 W] w fun e w' => e = .returned (.string ⟨(fixedOf W N).toArray⟩) ∧ Below w.heap.size w w' := by
  have hy : (decide ((1:Int) ≤ (W : Int)) && decide ((W : Int) ≤ 7)) = true := by simp; omega
  go_enter Try.func8, Try.ntmps8
  go_wp2_with (go_at_call 18; refine (l1In_any _ _ _ _).mono ?_; rintro e w' ⟨rfl, rfl⟩; rw [hy])
  go_loopw [0, 5, 6] (fun n v i wr => ∃ (k m : Nat) (E : ByteArray), k ≤ W ∧ i = .int .i64 k ∧ n = .int .i64 m ∧ v = .string E ∧ E.size = k ∧ m ≤ 9223372036854775807 ∧ Hid (m = N / 256 ^ k) ∧ Hid (E = ⟨(fx k N).toArray⟩) ∧ Below w.heap.size w wr) (fun _ _ i _ => W - (intOf i).toNat)
  case atStart => exact ⟨0, N, ⟨#[]⟩, by omega, rfl, rfl, rfl, rfl, hN, (by simp [Hid]), rfl, Below.refl _ _⟩
  case round =>
    obtain ⟨k, m, E, hk, rfl, rfl, rfl, hEs, hmb, hm, hE, hnx⟩ := hrel
    have hsz := hnx.size
    by_cases hlt : k < W
    · obtain ⟨b, hb⟩ : ∃ b, b = UInt8.ofNat (m % 256) := ⟨_, rfl⟩
      have Hb : Hid (b = UInt8.ofNat (m % 256)) := hb
      have hconv : ∀ wr : World, (convert 34 9 (.slice (some ⟨wr.heap.size, 0, none⟩) 1 1)).run Try.prog (wr.alloc (.cells #[Value.int IntKind.u8 ((m : Int) % 256)] 5)) = .ok (.string ⟨#[b]⟩) (wr.alloc (.cells #[Value.int IntKind.u8 ((m : Int) % 256)] 5)) := by
        intro wr
        have h := conv_row (wr.alloc (.cells #[Value.int IntKind.u8 ((m : Int) % 256)] 5)) wr.heap.size [b] 0 1 (by
          rw [heap_alloc_new, hb]; simp [rowOf, bcells])
        exact h
      clear hb
      go_wp2
      refine ⟨⟨k + 1, m / 256, ⟨#[b]⟩ ++ E, by omega, by go_num, by go_num, rfl, ?_, by omega, ?_, ?_, hnx.alloc hsz _⟩, by simp [intOf]; omega⟩
      · rw [ByteArray.size_append, hEs]; show 1 + k = k + 1; omega
      · show m / 256 = _; rw [hm.out]; exact pow_div N k
      · show _ = _
        rw [hE.out, fx_cons k N, ← hm.out, ← Hb.out]
        exact cat_bytes [b] (fx k N)
    · obtain rfl : k = W := by omega
      by_cases hp : 0 < m
      · have hp' : Hid (0 < N / 256 ^ k) := by show _ < _; rw [← hm.out]; exact hp
        go_wp2
        go_ret
        rw [fixedOf_no hp'.out]
        exact ⟨rfl, hnx⟩
      · have hp' : Hid (¬ 0 < N / 256 ^ k) := by show ¬ _; rw [← hm.out]; exact hp
        go_wp2
        go_ret
        rw [fixedOf_yes hp'.out, ← hE.out]
        exact ⟨rfl, hnx⟩

set_option maxHeartbeats 400000 in
theorem specFixed_no (n W : Int) (w : World) (h : n < 0 ∨ W < 1 ∨ 7 < W) :
    Calls Try.prog 8 #[.int .i64 n, .int .i64 W] w fun e w' => e = .returned (.string ⟨#[]⟩) ∧ w' = w := by
  by_cases h1 : 1 ≤ W ∧ W ≤ 7
  · have hy : (decide ((1:Int) ≤ W) && decide (W ≤ 7)) = true := by simp; omega
    have h3 : n < 0 := by omega
    go_enter Try.func8, Try.ntmps8
    go_wp2_with (go_at_call 18; refine (l1In_any _ _ _ _).mono ?_; rintro e w' ⟨rfl, rfl⟩; rw [hy])
    go_ret
    exact ⟨rfl, rfl⟩
  · have hy : (decide ((1:Int) ≤ W) && decide (W ≤ 7)) = false := by simp; omega
    go_enter Try.func8, Try.ntmps8
    go_wp2_with (go_at_call 18; refine (l1In_any _ _ _ _).mono ?_; rintro e w' ⟨rfl, rfl⟩; rw [hy])
    go_ret
    exact ⟨rfl, rfl⟩

set_option maxHeartbeats 400000 in
theorem implFixed_no (n W : Int) (w : World) (h : n < 0 ∨ W < 1 ∨ 7 < W) :
    Calls Try.prog 9 #[.int .i64 n, .int .i64 W] w fun e w' => e = .returned (.string ⟨#[]⟩) ∧ w' = w := by
  by_cases h1 : W < 1
  · go_enter Try.func9, Try.ntmps9
    go_wp2
    go_ret
    exact ⟨rfl, rfl⟩
  · by_cases h2 : 7 < W
    · go_enter Try.func9, Try.ntmps9
      go_wp2
      go_ret
      exact ⟨rfl, rfl⟩
    · have h3 : n < 0 := by omega
      go_enter Try.func9, Try.ntmps9
      go_wp2
      go_ret
      exact ⟨rfl, rfl⟩

set_option maxHeartbeats 400000 in
theorem implFixed_great (N W : Nat) (w : World) (hN : N ≤ 9223372036854775807) (h1 : 1 ≤ W) (h7 : W ≤ 7) (hf : 0 < N / 256 ^ W) :
    Calls Try.prog 9 #[.int .i64 N, .int .i64 W] w fun e w' => e = .returned (.string ⟨#[]⟩) ∧ w' = w := by
  have hq : ((N : Int) / 2 ^ (8 * W) != 0) = true := by rw [shr_eq, bne_iff_ne]; omega
  clear hf
  go_enter Try.func9, Try.ntmps9
  go_wp2
  go_ret
  exact ⟨rfl, rfl⟩

set_option maxRecDepth 100000 in
set_option maxHeartbeats 400000 in
theorem implFixed_yes (N W : Nat) (w : World) (hN : N ≤ 9223372036854775807) (h1 : 1 ≤ W) (h7 : W ≤ 7) (hf : ¬ 0 < N / 256 ^ W) :
    Calls Try.prog 9 #[.int .i64 N, .int .i64 W] w fun e w' => e = .returned (.string ⟨(fx W N).toArray⟩) ∧ Below w.heap.size w w' := by
  have h0 : N / 256 ^ W = 0 := Nat.eq_zero_of_not_pos hf
  have hq : ((N : Int) / 2 ^ (8 * W) != 0) = false := by rw [shr_eq, h0]; rfl
  clear h0
  have hmk := make_bytes W (by omega)
  clear hf
  go_enter Try.func9, Try.ntmps9
  go_wp2
  clear hmk
  go_loopw [6, 7] (fun a s wr => ∃ (acc : List UInt8) (j : Nat), acc.length + j = W ∧ a = .int .i64 acc.length ∧ s = .int .i64 (8 * (j : Int) - 8) ∧ Hid (acc = fx acc.length (N / 256 ^ j)) ∧ wr.heap[w.heap.size]? = some (.cells (rowOf acc j).toArray 5 (0, 0)) ∧ Below w.heap.size w wr) (fun _ s _ => (intOf s + 8).toNat)
  case atStart => exact ⟨[], W, by simp, rfl, by go_num, rfl, heap_alloc_new w _, (Below.refl _ _).alloc (Nat.le_refl _) _⟩
  case round =>
    obtain ⟨acc, j, hkj, rfl, rfl, hacc, hrow, hnx⟩ := hrel
    have hsz := hnx.size
    by_cases hj : 0 < j
    · obtain ⟨j, rfl⟩ : ∃ i, j = i + 1 := ⟨j - 1, by omega⟩
      rw [show (8 * ((j + 1 : Nat) : Int) - 8) = ((8 * j : Nat) : Int) by omega]
      obtain ⟨b, hb⟩ : ∃ b, b = UInt8.ofNat (N / 256 ^ j % 256) := ⟨_, rfl⟩
      have Hb : Hid (b = UInt8.ofNat (N / 256 ^ j % 256)) := hb
      have Hv : Hid (#[Value.int IntKind.u8 ((N : Int) / 2 ^ (8 * j) % 256)] = (bcells [b]).toArray) := by rw [hb, shr_eq]; simp [bcells, Hid]
      clear hb
      go_wp2_with fail
      refine (put_row wr w.heap.size W acc [b] j _ Hv.out 1 rfl hrow (by omega) (by omega) (by omega)).mono ?_
      rintro e w2 ⟨rfl, hrow2, hb2⟩
      clear hrow
      go_wp2
      refine ⟨⟨acc ++ [b], j, by simp; omega, by simp, by go_num, ?_, hrow2, hnx.trans hb2⟩, by simp [intOf]; omega⟩
      show _ = _
      rw [List.length_append]
      show _ = fx (acc.length + 1) _
      rw [← fx_snoc acc.length _ (N / 256 ^ j) (pow_div N j), ← hacc.out, ← Hb.out]
    · obtain rfl : j = 0 := by omega
      have hconv := conv_row wr w.heap.size acc 0 W hrow
      have H : Hid (acc = fx W N) := by have := hacc.out; simpa [show acc.length = W by omega, Hid] using this
      rw [show acc.length = W by omega] at hconv
      clear hrow hacc
      go_wp2
      go_ret
      rw [H.out]
      exact ⟨rfl, hnx⟩

theorem implFixed_any (N W : Nat) (w : World) (hN : N ≤ 9223372036854775807) (h1 : 1 ≤ W) (h7 : W ≤ 7) :
    Calls Try.prog 9 #[.int .i64 N, .int .i64 W] w fun e w' => e = .returned (.string ⟨(fixedOf W N).toArray⟩) ∧ Below w.heap.size w w' := by
  by_cases hf : 0 < N / 256 ^ W
  · refine (implFixed_great N W w hN h1 h7 hf).mono ?_
    rintro e w' ⟨rfl, rfl⟩
    rw [fixedOf_no hf]
    exact ⟨rfl, Below.refl _ _⟩
  · rw [fixedOf_yes hf]
    exact implFixed_yes N W w hN h1 h7 hf

set_option maxHeartbeats 400000 in
theorem walkFixed (a0 a1 : Int) (w0 : (Lit.int .i64 a0).wf = true) (w1 : (Lit.int .i64 a1).wf = true) (w : World) :
    Calls Try.prog 3 #[.int .i64 a0, .int .i64 a1] w fun e w' => e = .returned (.bool true) ∧ Below w.heap.size w w' := by
  by_cases hr : 0 ≤ a0 ∧ 1 ≤ a1 ∧ a1 ≤ 7
  · have hb := bounds_i64 w0
    obtain ⟨N, rfl⟩ := Int.eq_ofNat_of_zero_le hr.1
    obtain ⟨W, rfl⟩ := Int.eq_ofNat_of_zero_le (show 0 ≤ a1 by omega)
    obtain ⟨s, hs⟩ : ∃ s : ByteArray, s = ⟨(fixedOf W N).toArray⟩ := ⟨_, rfl⟩
    have c1 := fun w => specFixed_yes N W w (by omega) (by omega) (by omega)
    have c2 := fun w => implFixed_any N W w (by omega) (by omega) (by omega)
    rw [← hs] at c1 c2
    have C1 := c1 w
    have C2 : Hid (∀ w, _) := c2
    clear hs c1 c2 hr hb
    go_enter Try.func3, Try.ntmps3
    go_wp2_with fail
    refine C1.mono ?_
    rintro e w1 ⟨rfl, hb1⟩
    clear C1
    go_wp2_with fail
    refine (C2.out w1).mono ?_
    rintro e w2 ⟨rfl, hb2⟩
    clear C2
    go_wp2
    go_ret
    exact ⟨rfl, hb1.trans (hb2.mono hb1.size)⟩
  · have hn : a0 < 0 ∨ a1 < 1 ∨ 7 < a1 := by omega
    go_enter Try.func3, Try.ntmps3
    go_wp2_with (first
      | (go_at_call 8; refine (specFixed_no _ _ _ hn).mono ?_; rintro e w' ⟨rfl, rfl⟩)
      | (go_at_call 9; refine (implFixed_no _ _ _ hn).mono ?_; rintro e w' ⟨rfl, rfl⟩))
    go_ret
    exact ⟨rfl, Below.refl _ _⟩

namespace Fixed
theorem own : ownKnob Try.prog.godebug = none := by kernel_rfl

set_option maxRecDepth 100000 in
theorem lifted (os : Os) (started : os.Started) (H : Type) (enc : TypeId × Value → H) :
    ReturnsInHanded {} Try.checked os 3 .any (Rows.fnExactFixedSpec.pre6 enc Try.prog Try.f3 Rows.fnExactFixedRow.domain false) (Rows.fnExactFixedSpec.post enc Try.prog Try.f3 false true false false) := by
  refine returnsInHanded_of_change (C := Try.checked) own started (by kernel_rfl) Try.func3
    (ChangeSpec.witness6 (enc := enc) (C := Try.checked) false ⟨#[], #[.int .i64 0, .int .i64 0], []⟩ 8 (by kernel_rfl) (by kernel_rfl) (by kernel_rfl) (by kernel_rfl)) ?_
  intro W base args ds gs before hval0 hW hcnd _
  have hval : ∀ (j : Nat) t v, Try.f3.params[j]? = some t → args[j]? = some v → Value.okWide Try.prog W .any base t v := hval0
  have hW' := hW
  obtain ⟨p, q, hA0, hV, rfl, hfz, hnd⟩ := hW
  have hA : DataW.TrodAll enc Try.prog W 0 (fun _ => true) true Try.f3.params.toList args.toList ds p := hA0
  rw [Try.params3] at hA hval
  obtain ⟨v0, vs0, d0, ds0, p0, q0, hargs, rfl, rfl, h0, r0⟩ := trodAll_cons hA
  obtain ⟨v1, vs1, d1, ds1, p1, q1, rfl, rfl, rfl, h1, r1⟩ := trodAll_cons r0
  obtain ⟨rfl, rfl, rfl⟩ := trodAll_nil r1
  obtain rfl : args = #[v0, v1] := by cases args; simp_all
  obtain ⟨rfl, rfl⟩ := trodVars_none hV
  obtain ⟨a0, rfl, rfl, rfl, w0⟩ := open_int Try.underlying3 (hval 0 3 v0 rfl rfl) h0
  obtain ⟨a1, rfl, rfl, rfl, w1⟩ := open_int Try.underlying3 (hval 1 3 v1 rfl rfl) h1
  clear hA0 hval0
  simp only [List.append_nil] at hW'
  refine (walkFixed a0 a1 w0 w1 W).mono fun e W' ⟨he, bel⟩ => ?_
  subst he
  exact ⟨_, rfl, _, _, _, [], _, [], hW', (trodAll_cons_mk (shut_bool Try.underlying4 _) trodAll_mk0), (trodAll_cons_mk (shut_int Try.underlying3 w0) (trodAll_cons_mk (shut_int Try.underlying3 w1) trodAll_mk0)), rfl, bel.frame _, fun h => by cases h⟩

theorem over : Rows.fnExactFixedRow.holds Try.pinned (OpenSpec.ofChange Rows.fnExactFixedSpec) :=
  OpenClaim.holds_of_wide 3 Try.f3 rfl rfl rfl rfl rfl rfl rfl ⟨rfl, rfl, rfl, rfl, rfl⟩ rfl rfl rfl rfl rfl (by kernel_rfl) Try.func3 (by kernel_rfl)
    (of_decide_eq_true (by kernel_rfl)) (by unfold Func.isWrapper; first | (rw [if_pos (by decide +kernel)]; kernel_rfl) | (rw [if_neg (by decide +kernel)]; exact ⟨rfl, rfl⟩))
    (fun os started H enc _ => lifted os started H enc)


end Fixed
theorem fixed_holds : Rows.FnExactFixedSaid := Fixed.over
#print axioms fixed_holds
end Go.Proofs.Ytkjabochhhalhah
