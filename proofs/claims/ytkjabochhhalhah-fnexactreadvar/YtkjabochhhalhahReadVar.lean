/-
  ReadVar answers as its model at every text, and changes nothing of it. No condition.
-/
import Derived.Test.YtkjabochhhalhahVar
import Derived.Test.YtkjabochhhalhahMathVar
import Derived.Deep.QuietTactic
import Derived.BigQuiet
import Derived.Lib.Strings
namespace Go.Proofs.Ytkjabochhhalhah
open Go.ChangeShapes Go.WideShapes Go.ChangeAt Go.RowKit
open Go.ChangeMaps (open_string shut_string)
set_option linter.unusedVariables false

set_option maxHeartbeats 400000 in
theorem implReadVar_long (s : ByteArray) (w : World) (hs : s.size ≤ 1048576) (h7 : 7 < s.size) :
    Calls Try.prog 15 #[.string s] w fun e w' => ∃ n k : Nat, e = .returned (.tuple #[.int .i64 n, .int .i64 k]) ∧ Told s.data.toList n k ∧ w' = w := by
  go_enter Try.func15, Try.ntmps15
  go_wp2
  go_loop [4, 5, 6, 10] (fun n _ _ i => ∃ k : Nat, k ≤ 7 ∧ i = .int .i64 k ∧ n = .int .i64 (val (s.data.toList.take k) : Nat) ∧ Hid (Opens s.data.toList k)) (fun _ _ _ i => 7 - (intOf i).toNat)
  case atStart => exact ⟨0, Nat.zero_le _, rfl, rfl, fun j hj => by omega⟩
  case round =>
    obtain ⟨k, hk, rfl, rfl, ho⟩ := hrel
    by_cases hlt : k < 7
    · have hks : k < s.size := by omega
      have hkl : k < s.data.toList.length := by simpa using hks
      obtain ⟨B, hB⟩ : ∃ B : Nat, B = s[k].toNat := ⟨_, rfl⟩
      have hB2 : B < 256 := by rw [hB]; exact s[k].toNat_lt
      have hw : wrap64 ((s[k].toNat : Nat) : Int) = (B : Int) := by rw [← hB]; exact wrap64_id _ (by omega) (by omega)
      have HB : Hid (B = s.data.toList[k].toNat) := hB
      clear hB
      by_cases hc : 127 < B
      · go_wp2
        refine ⟨⟨k + 1, by omega, by go_num, ?_, ?_⟩, by simp [intOf]; omega⟩
        · rw [orTake _ k (by omega) hkl B HB.out]
        · exact Opens.succ ho.out hkl (by rw [← HB.out]; omega)
      · by_cases hz : B = 0
        · have hz1 : ((B : Int) == 0) = true := by simp [hz]
          have HZ : Hid (B = 0) := hz
          clear hz
          by_cases hp : 0 < k
          · go_wp2
            go_ret2
            exact ⟨0, 0, rfl, told_nought _ k (by omega) hkl ho.out (by rw [← HB.out]; exact HZ.out) hp, rfl⟩
          · go_wp2
            go_ret2
            refine ⟨_, k + 1, ?_, told_at _ k (by omega) hkl ho.out (by rw [← HB.out]; omega) (.inr (by omega)), rfl⟩
            rw [orTake _ k (by omega) hkl B HB.out]
            first | rfl | simp
        · have hz1 : ((B : Int) == 0) = false := by simp [hz]
          have HZ : Hid (B ≠ 0) := hz
          clear hz
          go_wp2
          go_ret2
          refine ⟨_, k + 1, ?_, told_at _ k (by omega) hkl ho.out (by rw [← HB.out]; omega) (.inl (by rw [← HB.out]; exact HZ.out)), rfl⟩
          rw [orTake _ k (by omega) hkl B HB.out]
          first | rfl | simp
    · have he : k = 7 := by omega
      subst he
      go_wp2
      go_ret2
      exact ⟨0, 0, rfl, told_end _ _ ho.out (by omega), rfl⟩

set_option maxHeartbeats 400000 in
theorem implReadVar_short (s : ByteArray) (w : World) (hs : s.size ≤ 1048576) (h7 : s.size ≤ 7) :
    Calls Try.prog 15 #[.string s] w fun e w' => ∃ n k : Nat, e = .returned (.tuple #[.int .i64 n, .int .i64 k]) ∧ Told s.data.toList n k ∧ w' = w := by
  go_enter Try.func15, Try.ntmps15
  go_wp2
  go_loop [4, 5, 6, 10] (fun n _ _ i => ∃ k : Nat, k ≤ s.size ∧ i = .int .i64 k ∧ n = .int .i64 (val (s.data.toList.take k) : Nat) ∧ Hid (Opens s.data.toList k)) (fun _ _ _ i => 7 - (intOf i).toNat)
  case atStart => exact ⟨0, Nat.zero_le _, rfl, rfl, fun j hj => by omega⟩
  case round =>
    obtain ⟨k, hk, rfl, rfl, ho⟩ := hrel
    by_cases hlt : k < s.size
    · have hks : k < s.size := by omega
      have hkl : k < s.data.toList.length := by simpa using hks
      obtain ⟨B, hB⟩ : ∃ B : Nat, B = s[k].toNat := ⟨_, rfl⟩
      have hB2 : B < 256 := by rw [hB]; exact s[k].toNat_lt
      have hw : wrap64 ((s[k].toNat : Nat) : Int) = (B : Int) := by rw [← hB]; exact wrap64_id _ (by omega) (by omega)
      have HB : Hid (B = s.data.toList[k].toNat) := hB
      clear hB
      by_cases hc : 127 < B
      · go_wp2
        refine ⟨⟨k + 1, by omega, by go_num, ?_, ?_⟩, by simp [intOf]; omega⟩
        · rw [orTake _ k (by omega) hkl B HB.out]
        · exact Opens.succ ho.out hkl (by rw [← HB.out]; omega)
      · by_cases hz : B = 0
        · have hz1 : ((B : Int) == 0) = true := by simp [hz]
          have HZ : Hid (B = 0) := hz
          clear hz
          by_cases hp : 0 < k
          · go_wp2
            go_ret2
            exact ⟨0, 0, rfl, told_nought _ k (by omega) hkl ho.out (by rw [← HB.out]; exact HZ.out) hp, rfl⟩
          · go_wp2
            go_ret2
            refine ⟨_, k + 1, ?_, told_at _ k (by omega) hkl ho.out (by rw [← HB.out]; omega) (.inr (by omega)), rfl⟩
            rw [orTake _ k (by omega) hkl B HB.out]
            first | rfl | simp
        · have hz1 : ((B : Int) == 0) = false := by simp [hz]
          have HZ : Hid (B ≠ 0) := hz
          clear hz
          go_wp2
          go_ret2
          refine ⟨_, k + 1, ?_, told_at _ k (by omega) hkl ho.out (by rw [← HB.out]; omega) (.inl (by rw [← HB.out]; exact HZ.out)), rfl⟩
          rw [orTake _ k (by omega) hkl B HB.out]
          first | rfl | simp
    · have he : k = s.size := by omega
      subst he
      go_wp2
      go_ret2
      exact ⟨0, 0, rfl, told_end _ _ ho.out (by simp), rfl⟩


theorem fits_beq (s : ByteArray) (K N : Nat) (E : ByteArray) (hE : E = ⟨(enc 7 N).toArray⟩) (hN : N = val (s.data.toList.take K)) : (E.toList == (s.extract 0 K).toList) = true ↔ Fits s.data.toList K := by
  rw [Lib.extract_toList, Lib.toList_data, hE, hN, beq_iff_eq]
  simp [Fits]
theorem val_drop (l : List UInt8) (M K : Nat) (hM : M < K) (hK : K ≤ l.length) (B : Nat) (hB : B = (l[M]'(by omega)).toNat) : val ((l.take K).drop M) = val ((l.take K).drop (M + 1)) * 128 + B % 128 := by
  have h : M < (l.take K).length := by simp; omega
  rw [List.drop_eq_getElem_cons h, hB]
  simp only [val, List.getElem_take]
  omega

set_option maxRecDepth 100000 in
set_option maxHeartbeats 1000000 in
theorem specReadVar_any (s : ByteArray) (w : World) (hs : s.size ≤ 1048576) :
    Calls Try.prog 14 #[.string s] w fun e w' => ∃ n k : Nat, e = .returned (.tuple #[.int .i64 n, .int .i64 k]) ∧ Told s.data.toList n k ∧ Below w.heap.size w w' := by
  go_enter Try.func14, Try.ntmps14
  go_wp2
  go_loopw [4, 5, 6] (fun k _ _ wr => ∃ K : Nat, 1 ≤ K ∧ K ≤ 8 ∧ K ≤ s.size + 1 ∧ k = .int .i64 K ∧ Hid (∀ j, 1 ≤ j → j < K → ¬ Fits s.data.toList j) ∧ Below w.heap.size w wr) (fun k _ _ _ => 8 - (intOf k).toNat)
  case atStart => exact ⟨1, by omega, by omega, by omega, rfl, fun j h1 h2 => by omega, Below.refl _ _⟩
  case round =>
    obtain ⟨K, hK1, hK8, hKs, rfl, hno, hnx⟩ := hrel
    have hsz := hnx.size
    by_cases h7 : K ≤ 7
    · by_cases hl : K ≤ s.size
      · go_wp2
        go_loop [5, 6] (fun n i => ∃ J : Nat, J ≤ K ∧ i = .int .i64 ((J : Int) - 1) ∧ n = .int .i64 (val ((s.data.toList.take K).drop J) : Nat)) (fun _ i => (intOf i + 1).toNat)
        case atStart => exact ⟨K, Nat.le_refl _, rfl, by rw [List.drop_of_length_le (by simp; omega)]; rfl⟩
        case round =>
          obtain ⟨J, hJ, rfl, rfl⟩ := hrel
          by_cases hJ0 : 0 < J
          · obtain ⟨M, rfl⟩ : ∃ M, J = M + 1 := ⟨J - 1, by omega⟩
            have hMs : M < s.size := by omega
            have hMl : M < s.data.toList.length := by simpa using hMs
            obtain ⟨B, hB⟩ : ∃ B : Nat, B = s[M].toNat := ⟨_, rfl⟩
            have hB2 : B < 256 := by rw [hB]; exact s[M].toNat_lt
            have hw : wrap64 ((s[M].toNat : Nat) : Int) = (B : Int) := by rw [← hB]; exact wrap64_id _ (by omega) (by omega)
            have HV : Hid (val ((s.data.toList.take K).drop M) = val ((s.data.toList.take K).drop (M + 1)) * 128 + B % 128) := val_drop _ M K (by omega) (by simpa using hl) B hB
            have hvs : val ((s.data.toList.take K).drop (M + 1)) ≤ 562949953421311 := val_small _ (by simp; omega)
            clear hB
            rw [show (((M + 1 : Nat) : Int) - 1) = (M : Int) by omega]
            go_wp2
            refine ⟨⟨M, by omega, rfl, ?_⟩, by simp [intOf]⟩
            rw [HV.out]
            go_num
          · obtain rfl : J = 0 := by omega
            have hvs : val (s.data.toList.take K) ≤ 562949953421311 := val_small _ (by simp; omega)
            obtain ⟨N, hN⟩ : ∃ N : Nat, N = val (s.data.toList.take K) := ⟨_, rfl⟩
            have HN : Hid (N = val (s.data.toList.take K)) := hN
            rw [List.drop_zero, ← hN]
            rw [← hN] at hvs
            clear hN
            obtain ⟨E, hE⟩ : ∃ E : ByteArray, E = ⟨(enc 7 N).toArray⟩ := ⟨_, rfl⟩
            have hC : ∀ w, Calls Try.prog 12 #[.int .i64 N] w fun e w' => e = .returned (.string E) ∧ Below w.heap.size w w' := by intro w; rw [hE]; exact specVar_yes N w hvs
            have HC : Hid (∀ w, Calls Try.prog 12 #[.int .i64 N] w fun e w' => e = .returned (.string E) ∧ Below w.heap.size w w') := hC
            have HE : Hid (E = ⟨(enc 7 N).toArray⟩) := hE
            clear hE hC
            have hsl := List.length_take_le K s.data.toList
            by_cases hF : Fits s.data.toList K
            · have hq : (E.toList == (s.extract 0 K).toList) = true := (fits_beq s K N E HE.out HN.out).2 hF
              have HF : Hid (Fits s.data.toList K) := hF
              clear hF
              go_wp2
              go_region_with (go_at_call 12; refine (HC.out _).mono ?_; rintro e w2 ⟨rfl, hb2⟩)
              go_wp2
              go_ret2
              refine ⟨N, K, rfl, .inl ⟨hK1, h7, by simpa using hl, HF.out, HN.out⟩, hnx.trans ?_⟩
              exact ⟨hb2.os, hb2.tape, hb2.output, hb2.size, fun k hk => hb2.block k (by simp; omega)⟩
            · have hq : (E.toList == (s.extract 0 K).toList) = false := Bool.eq_false_iff.2 fun h => hF ((fits_beq s K N E HE.out HN.out).1 h)
              have HF : Hid (¬ Fits s.data.toList K) := hF
              clear hF
              go_wp2
              go_region_with (go_at_call 12; refine (HC.out _).mono ?_; rintro e w2 ⟨rfl, hb2⟩)
              go_wp2
              refine ⟨⟨K + 1, by omega, by omega, by omega, by go_num, ?_, hnx.trans ⟨hb2.os, hb2.tape, hb2.output, hb2.size, fun k hk => hb2.block k (by simp; omega)⟩⟩, by simp [intOf]; omega⟩
              intro j h1 h2 hf
              by_cases e : j = K
              · exact HF.out (e ▸ hf)
              · exact hno.out j h1 (by omega) hf
      · have hlf : decide ((K : Int) ≤ (s.size : Int)) = false := by simp; omega
        go_wp2
        go_ret2
        refine ⟨0, 0, rfl, .inr ⟨rfl, rfl, fun j h1 h2 h3 => hno.out j h1 (by simp at h3; omega)⟩, hnx⟩
    · have hlf : decide ((K : Int) ≤ 7) = false := by simp; omega
      go_wp2
      go_ret2
      exact ⟨0, 0, rfl, .inr ⟨rfl, rfl, fun j h1 h2 h3 => hno.out j h1 (by omega)⟩, hnx⟩

theorem implReadVar_any (s : ByteArray) (w : World) (hs : s.size ≤ 1048576) :
    Calls Try.prog 15 #[.string s] w fun e w' => ∃ n k : Nat, e = .returned (.tuple #[.int .i64 n, .int .i64 k]) ∧ Told s.data.toList n k ∧ w' = w := by
  by_cases h7 : 7 < s.size
  · exact implReadVar_long s w hs h7
  · exact implReadVar_short s w hs (by omega)

set_option maxHeartbeats 400000 in
theorem walkReadVar (a0 : ByteArray) (w0 : a0.size ≤ maxLen) (w : World) :
    Calls Try.prog 6 #[.string a0] w fun e w' => e = .returned (.bool true) ∧ Below w.heap.size w w' := by
  unfold maxLen at w0
  by_cases hbig : 1048576 < a0.size
  · go_enter Try.func6, Try.ntmps6
    go_wp2_with fail
    go_ret
    exact ⟨rfl, Below.refl _ _⟩
  · have hs : a0.size ≤ 1048576 := by omega
    go_enter Try.func6, Try.ntmps6
    go_wp2_with fail
    refine (specReadVar_any a0 w hs).mono ?_
    rintro e w1 ⟨n, k, rfl, ht, hb⟩
    have HT : Hid (Told a0.data.toList n k) := ht
    clear ht
    go_wp2_with fail
    refine (implReadVar_any a0 w1 hs).mono ?_
    rintro e w2 ⟨n', k', rfl, ht', rfl⟩
    obtain ⟨rfl, rfl⟩ := told_one _ _ _ _ _ HT.out ht'
    clear ht' HT
    go_wp2
    go_ret
    exact ⟨rfl, hb⟩

namespace ReadVar
theorem own : ownKnob Try.prog.godebug = none := by kernel_rfl

set_option maxRecDepth 100000 in
theorem lifted (os : Os) (started : os.Started) (H : Type) (enc : TypeId × Value → H) :
    ReturnsInHanded {} Try.checked os 6 .any (Rows.fnExactReadVarSpec.pre6 enc Try.prog Try.f6 Rows.fnExactReadVarRow.domain false) (Rows.fnExactReadVarSpec.post enc Try.prog Try.f6 false true false false) := by
  refine returnsInHanded_of_change (C := Try.checked) own started (by kernel_rfl) Try.func6
    (ChangeSpec.witness6 (enc := enc) (C := Try.checked) false ⟨#[], #[.string ByteArray.empty], []⟩ 8 (by kernel_rfl) (by kernel_rfl) (by kernel_rfl) (by kernel_rfl)) ?_
  intro W base args ds gs before hval0 hW hcnd _
  have hval : ∀ (j : Nat) t v, Try.f6.params[j]? = some t → args[j]? = some v → Value.okWide Try.prog W .any base t v := hval0
  have hW' := hW
  obtain ⟨p, q, hA0, hV, rfl, hfz, hnd⟩ := hW
  have hA : DataW.TrodAll enc Try.prog W 0 (fun _ => true) true Try.f6.params.toList args.toList ds p := hA0
  rw [Try.params6] at hA hval
  obtain ⟨v0, vs0, d0, ds0, p0, q0, hargs, rfl, rfl, h0, r0⟩ := trodAll_cons hA
  obtain ⟨rfl, rfl, rfl⟩ := trodAll_nil r0
  obtain rfl : args = #[v0] := by cases args; simp_all
  obtain ⟨rfl, rfl⟩ := trodVars_none hV
  obtain ⟨a0, rfl, rfl, rfl, w0⟩ := open_string Try.underlying9 (hval 0 9 v0 rfl rfl) h0
  clear hA0 hval0
  simp only [List.append_nil] at hW'
  refine (walkReadVar a0 w0 W).mono fun e W' ⟨he, bel⟩ => ?_
  subst he
  exact ⟨_, rfl, _, _, _, [], _, [], hW', (trodAll_cons_mk (shut_bool Try.underlying4 _) trodAll_mk0), (trodAll_cons_mk (shut_string Try.underlying9 w0) trodAll_mk0), rfl, bel.frame _, fun h => by cases h⟩

theorem over : Rows.fnExactReadVarRow.holds Try.pinned (OpenSpec.ofChange Rows.fnExactReadVarSpec) :=
  OpenClaim.holds_of_wide 6 Try.f6 rfl rfl rfl rfl rfl rfl rfl ⟨rfl, rfl, rfl, rfl, rfl⟩ rfl rfl rfl rfl rfl (by kernel_rfl) Try.func6 (by kernel_rfl)
    (of_decide_eq_true (by kernel_rfl)) (by unfold Func.isWrapper; first | (rw [if_pos (by decide +kernel)]; kernel_rfl) | (rw [if_neg (by decide +kernel)]; exact ⟨rfl, rfl⟩))
    (fun os started H enc _ => lifted os started H enc)


end ReadVar
theorem readVar_holds : Rows.FnExactReadVarSaid := ReadVar.over
#print axioms readVar_holds
end Go.Proofs.Ytkjabochhhalhah
