/-
  Var answers as its model at every number. No condition.
-/
import Derived.Test.YtkjabochhhalhahPut
import Derived.Test.YtkjabochhhalhahReadFixed
namespace Go.Proofs.Ytkjabochhhalhah
open Go.ChangeShapes Go.WideShapes Go.ChangeAt Go.RowKit
set_option linter.unusedVariables false

theorem varByte (m : Nat) (h : m < 9223372036854775808) : #[Value.int IntKind.u8 (bits BinOp.or IntKind.i64 (bits BinOp.and IntKind.i64 (m : Int) 127) 128 % 256)] = (bcells [UInt8.ofNat (128 + m % 128)]).toArray := by
  rw [and127 m h, or128 _ (by omega)]
  simp [bcells]
theorem varLast (m : Nat) (h : m < 128) : #[Value.int IntKind.u8 (m : Int)] = (bcells [UInt8.ofNat m]).toArray := by
  simp [bcells]
  omega

set_option maxHeartbeats 400000 in
theorem implVar_yes (N : Nat) (w : World) (hN : N ≤ 562949953421311) :
    Calls Try.prog 13 #[.int .i64 N] w fun e w' => e = .returned (.string ⟨(enc 7 N).toArray⟩) ∧ Below w.heap.size w w' := by
  have hmk : ∀ w, (Instr.makeSlice 34 (.int .i64 7) (.int .i64 7)).run Try.prog w = .ok (.slice (some ⟨w.heap.size, 0, none⟩) 7 7) (w.alloc (.cells (rowOf [] 7).toArray 5 (0, 0))) := fun _ => by kernel_rfl
  go_enter Try.func13, Try.ntmps13
  go_wp2
  clear hmk
  go_loopw [0, 4] (fun n a wr => ∃ (acc : List UInt8) (f m : Nat), acc.length + f = 7 ∧ 0 < f ∧ m < 128 ^ f ∧ m ≤ 562949953421311 ∧ n = .int .i64 m ∧ a = .int .i64 acc.length ∧ Hid (acc ++ enc f m = enc 7 N) ∧ wr.heap[w.heap.size]? = some (.cells (rowOf acc f).toArray 5 (0, 0)) ∧ Below w.heap.size w wr) (fun n _ _ => (intOf n).toNat)
  case atStart =>
    exact ⟨[], 7, N, rfl, by omega, by have : (128 : Nat) ^ 7 = 562949953421312 := by decide
                                       omega, hN, rfl, rfl, rfl, heap_alloc_new w _, (Below.refl _ _).alloc (Nat.le_refl _) _⟩
  case round =>
    obtain ⟨acc, f, m, hf, hf0, hm, hmb, rfl, rfl, henc, hrow, hnx⟩ := hrel
    have hm' : Hid (m < 128 ^ f) := hm
    clear hm
    have hsz := hnx.size
    by_cases hlt : 127 < m
    · obtain ⟨f', hf'⟩ := pow128_pos m f hm'.out hlt
      subst hf'
      go_wp2_with fail
      refine (put_row wr w.heap.size 7 acc [UInt8.ofNat (128 + m % 128)] (f' + 1) _ (varByte m (by omega)) 1 rfl hrow (by omega) (by omega) (by omega)).mono ?_
      rintro e w2 ⟨rfl, hrow2, hb2⟩
      go_wp2
      refine ⟨⟨acc ++ [UInt8.ofNat (128 + m % 128)], f' + 1, m / 128, by simp; omega, by omega, pow128_div m (f' + 1) hm'.out, by omega, by go_num, by simp, ?_, hrow2, hnx.trans hb2⟩, by simp [intOf]; omega⟩
      exact enc_step acc (f' + 1) m (by omega) _ henc.out
    · obtain ⟨f', rfl⟩ : ∃ f', f = f' + 1 := ⟨f - 1, by omega⟩
      go_wp2_with fail
      refine (put_row wr w.heap.size 7 acc [UInt8.ofNat m] f' _ (varLast m (by omega)) 1 rfl hrow (by omega) (by omega) (by omega)).mono ?_
      rintro e w2 ⟨rfl, hrow2, hb2⟩
      have hconv := conv_row w2 w.heap.size _ f' 7 hrow2
      simp only [List.length_append, List.length_cons, List.length_nil, Nat.zero_add] at hconv
      have H : Hid (acc ++ [UInt8.ofNat m] = enc 7 N) := enc_stop acc (f' + 1) m (by omega) _ henc.out
      clear hrow2 henc hm' hrow
      go_wp2
      go_ret
      rw [H.out]
      exact ⟨rfl, hnx.trans hb2⟩

set_option maxHeartbeats 400000 in
theorem implVar_no (n : Int) (w : World) (h : n < 0 ∨ 562949953421311 < n) :
    Calls Try.prog 13 #[.int .i64 n] w fun e w' => e = .returned (.string ⟨#[]⟩) ∧ w' = w := by
  by_cases h1 : n < 0
  · go_enter Try.func13, Try.ntmps13
    go_wp2
    go_ret
    exact ⟨rfl, rfl⟩
  · have h2 : 562949953421311 < n := by omega
    go_enter Try.func13, Try.ntmps13
    go_wp2
    go_ret
    exact ⟨rfl, rfl⟩

set_option maxHeartbeats 400000 in
theorem specVar_no (n : Int) (w : World) (h : n < 0 ∨ 562949953421311 < n) :
    Calls Try.prog 12 #[.int .i64 n] w fun e w' => e = .returned (.string ⟨#[]⟩) ∧ w' = w := by
  have hy : (decide ((0:Int) ≤ n) && decide (n ≤ 562949953421311)) = false := by simp; omega
  go_enter Try.func12, Try.ntmps12
  go_wp2_with (go_at_call 18; refine (l1In_any _ _ _ _).mono ?_; rintro e w' ⟨rfl, rfl⟩; rw [hy])
  go_ret
  exact ⟨rfl, rfl⟩

set_option maxRecDepth 100000 in
set_option maxHeartbeats 400000 in
theorem specVar_yes (N : Nat) (w : World) (hN : N ≤ 562949953421311) :
    Calls Try.prog 12 #[.int .i64 N] w fun e w' => e = .returned (.string ⟨(enc 7 N).toArray⟩) ∧ Below w.heap.size w w' := by
  have hy : (decide ((0:Int) ≤ N) && decide ((N : Int) ≤ 562949953421311)) = true := by simp; omega
  obtain ⟨i0, hi, hz0, hz1, hz2⟩ := info_parts info5
  go_enter Try.func12, Try.ntmps12
  go_wp2_with (go_at_call 18; refine (l1In_any _ _ _ _).mono ?_; rintro e w' ⟨rfl, rfl⟩; rw [hy])
  go_loopw [0, 3] (fun n v wr => ∃ (acc : List UInt8) (f m : Nat), acc.length + f = 7 ∧ 0 < f ∧ m < 128 ^ f ∧ m ≤ 562949953421311 ∧ n = .int .i64 m ∧ Hid (acc ++ enc f m = enc 7 N) ∧ wr.ownsRow w.heap.size 5 1 v acc.length (bcells acc) ∧ Below w.heap.size w wr) (fun n _ _ => (intOf n).toNat)
  case atStart =>
    exact ⟨[], 7, N, rfl, by omega, by have : (128 : Nat) ^ 7 = 562949953421312 := by decide
                                       omega, hN, rfl, rfl, World.ownsRow_made w #[] 0 (Nat.le_refl _) (by simp [maxLen]) rfl, (Below.refl _ _).alloc (Nat.le_refl _) _⟩
  case round =>
    obtain ⟨acc, f, m, hf, hf0, hm, hmb, rfl, henc, hown, hnx⟩ := hrel
    have hm' : Hid (m < 128 ^ f) := hm
    clear hm
    have hsz := hnx.size
    by_cases hlt : 127 < m
    · obtain ⟨f', hf'⟩ := pow128_pos m f hm'.out hlt
      subst hf'
      obtain ⟨b, hb⟩ : ∃ b, b = UInt8.ofNat (128 + m % 128) := ⟨_, rfl⟩
      have Hb : Hid (b = UInt8.ofNat (128 + m % 128)) := hb
      have Hv : Hid (#[Value.int IntKind.u8 (128 + (m : Int) % 128)] = (bcells [b]).toArray) := by rw [hb]; simp [bcells, Hid]; omega
      clear hb
      go_wp2_with (at_builtin; refine wpList_app rfl (.tmp 10) (.tmp 15) rfl w wr w.heap.size _ acc [b] _ 1 rfl rfl hown Hv.out rfl (by omega) hsz hnx ?_)
      intro v' w1 hown' hnx'
      clear hown hnx
      go_wp2
      refine ⟨⟨acc ++ [b], f' + 1, m / 128, by simp; omega, by omega, pow128_div m (f' + 1) hm'.out, by omega, by go_num, ?_, by simpa using hown'.out, hnx'⟩, by simp [intOf]; omega⟩
      rw [Hb.out]
      exact enc_step acc (f' + 1) m (by omega) _ henc.out
    · obtain ⟨b, hb⟩ : ∃ b, b = UInt8.ofNat m := ⟨_, rfl⟩
      have Hv : Hid (#[Value.int IntKind.u8 (m : Int)] = (bcells [b]).toArray) := by rw [hb]; simp [bcells, Hid]; omega
      have H : Hid (acc ++ [b] = enc 7 N) := by rw [hb]; exact enc_stop acc f m (by omega) _ henc.out
      clear hb
      go_wp2_with (at_builtin; refine wpList_app rfl (.tmp 19) (.tmp 22) rfl w wr w.heap.size _ acc [b] _ 1 rfl rfl hown Hv.out rfl (by omega) hsz hnx ?_)
      intro v' w1 hown' hnx'
      have hconv := conv_own w1 _ _ _ _ hown'.out
      clear hown hnx hown'
      go_wp2
      go_ret
      rw [H.out]
      exact ⟨rfl, hnx'⟩

set_option maxHeartbeats 400000 in
theorem walkVar (a0 : Int) (w0 : (Lit.int .i64 a0).wf = true) (w : World) :
    Calls Try.prog 5 #[.int .i64 a0] w fun e w' => e = .returned (.bool true) ∧ Below w.heap.size w w' := by
  by_cases hr : 0 ≤ a0 ∧ a0 ≤ 562949953421311
  · obtain ⟨N, rfl⟩ := Int.eq_ofNat_of_zero_le hr.1
    have hN : N ≤ 562949953421311 := by omega
    obtain ⟨s, hs⟩ : ∃ s : ByteArray, s = ⟨(enc 7 N).toArray⟩ := ⟨_, rfl⟩
    have c1 := fun w => specVar_yes N w hN
    have c2 := fun w => implVar_yes N w hN
    rw [← hs] at c1 c2
    have C1 := c1 w
    have C2 : Hid (∀ w, _) := c2
    clear hs c1 c2 hr
    go_enter Try.func5, Try.ntmps5
    go_wp2_with fail
    refine C1.mono ?_
    rintro e w1 ⟨rfl, hb1⟩
    clear C1
    go_wp2_with fail
    refine (C2.out w1).mono ?_
    rintro e w2 ⟨rfl, hb2⟩
    clear C2
    go_wp2
    go_ret
    exact ⟨rfl, hb1.trans (hb2.mono hb1.size)⟩
  · have hn : a0 < 0 ∨ 562949953421311 < a0 := by omega
    go_enter Try.func5, Try.ntmps5
    go_wp2_with (first
      | (go_at_call 12; refine (specVar_no _ _ hn).mono ?_; rintro e w' ⟨rfl, rfl⟩)
      | (go_at_call 13; refine (implVar_no _ _ hn).mono ?_; rintro e w' ⟨rfl, rfl⟩))
    go_ret
    exact ⟨rfl, Below.refl _ _⟩

namespace Var
theorem own : ownKnob Try.prog.godebug = none := by kernel_rfl

set_option maxRecDepth 100000 in
theorem lifted (os : Os) (started : os.Started) (H : Type) (enc : TypeId × Value → H) :
    ReturnsInHanded {} Try.checked os 5 .any (Rows.fnExactVarSpec.pre6 enc Try.prog Try.f5 Rows.fnExactVarRow.domain false) (Rows.fnExactVarSpec.post enc Try.prog Try.f5 false true false false) := by
  refine returnsInHanded_of_change (C := Try.checked) own started (by kernel_rfl) Try.func5
    (ChangeSpec.witness6 (enc := enc) (C := Try.checked) false ⟨#[], #[.int .i64 0], []⟩ 8 (by kernel_rfl) (by kernel_rfl) (by kernel_rfl) (by kernel_rfl)) ?_
  intro W base args ds gs before hval0 hW hcnd _
  have hval : ∀ (j : Nat) t v, Try.f5.params[j]? = some t → args[j]? = some v → Value.okWide Try.prog W .any base t v := hval0
  have hW' := hW
  obtain ⟨p, q, hA0, hV, rfl, hfz, hnd⟩ := hW
  have hA : DataW.TrodAll enc Try.prog W 0 (fun _ => true) true Try.f5.params.toList args.toList ds p := hA0
  rw [Try.params5] at hA hval
  obtain ⟨v0, vs0, d0, ds0, p0, q0, hargs, rfl, rfl, h0, r0⟩ := trodAll_cons hA
  obtain ⟨rfl, rfl, rfl⟩ := trodAll_nil r0
  obtain rfl : args = #[v0] := by cases args; simp_all
  obtain ⟨rfl, rfl⟩ := trodVars_none hV
  obtain ⟨a0, rfl, rfl, rfl, w0⟩ := open_int Try.underlying3 (hval 0 3 v0 rfl rfl) h0
  clear hA0 hval0
  simp only [List.append_nil] at hW'
  refine (walkVar a0 w0 W).mono fun e W' ⟨he, bel⟩ => ?_
  subst he
  exact ⟨_, rfl, _, _, _, [], _, [], hW', (trodAll_cons_mk (shut_bool Try.underlying4 _) trodAll_mk0), (trodAll_cons_mk (shut_int Try.underlying3 w0) trodAll_mk0), rfl, bel.frame _, fun h => by cases h⟩

theorem over : Rows.fnExactVarRow.holds Try.pinned (OpenSpec.ofChange Rows.fnExactVarSpec) :=
  OpenClaim.holds_of_wide 5 Try.f5 rfl rfl rfl rfl rfl rfl rfl ⟨rfl, rfl, rfl, rfl, rfl⟩ rfl rfl rfl rfl rfl (by kernel_rfl) Try.func5 (by kernel_rfl)
    (of_decide_eq_true (by kernel_rfl)) (by unfold Func.isWrapper; first | (rw [if_pos (by decide +kernel)]; kernel_rfl) | (rw [if_neg (by decide +kernel)]; exact ⟨rfl, rfl⟩))
    (fun os started H enc _ => lifted os started H enc)


end Var
theorem var_holds : Rows.FnExactVarSaid := Var.over
#print axioms var_holds
end Go.Proofs.Ytkjabochhhalhah
