/-
  ReadVar answers as its model at every text, and changes nothing of it. No condition.
-/
import Derived.Test.YtkjabochhhalhacDoorVar
import Derived.Test.YtkjabochhhalhacDoorMathVar
import Derived.Deep.QuietTactic
import Derived.BigQuiet
import Derived.Lib.Strings
namespace Go.Proofs.YtkjabochhhalhacDoor
open Go.ChangeShapes Go.WideShapes Go.ChangeAt Go.RowKit
open Go.ChangeMaps (open_string shut_string)
set_option linter.unusedVariables false

set_option maxHeartbeats 400000 in
theorem implReadVar_long (s : ByteArray) (w : World) (hs : s.size ≤ 1048576) (h7 : 7 < s.size) :
    Calls Tryd.prog 8 #[.string s] w fun e w' => ∃ n k : Nat, e = .returned (.tuple #[.int .i64 n, .int .i64 k]) ∧ Told s.data.toList n k ∧ w' = w := by
  go_enter Tryd.func8, Tryd.ntmps8
  go_wp2
  go_loop [4, 5, 6, 10] (fun n _ _ i => ∃ k : Nat, k ≤ 7 ∧ i = .int .i64 k ∧ n = .int .i64 (val (s.data.toList.take k) : Nat) ∧ Hid (Opens s.data.toList k)) (fun _ _ _ i => 7 - (intOf i).toNat)
  case atStart => exact ⟨0, Nat.zero_le _, rfl, rfl, fun j hj => by omega⟩
  case round =>
    obtain ⟨k, hk, rfl, rfl, ho⟩ := hrel
    by_cases hlt : k < 7
    · have hks : k < s.size := by omega
      have hkl : k < s.data.toList.length := by simpa using hks
      obtain ⟨B, hB⟩ : ∃ B : Nat, B = s[k].toNat := ⟨_, rfl⟩
      have hB2 : B < 256 := by rw [hB]; exact s[k].toNat_lt
      have hw : wrap64 ((s[k].toNat : Nat) : Int) = (B : Int) := by rw [← hB]; exact wrap64_id _ (by omega) (by omega)
      have HB : Hid (B = s.data.toList[k].toNat) := hB
      clear hB
      by_cases hc : 127 < B
      · go_wp2
        refine ⟨⟨k + 1, by omega, by go_num, ?_, ?_⟩, by simp [intOf]; omega⟩
        · rw [orTake _ k (by omega) hkl B HB.out]
        · exact Opens.succ ho.out hkl (by rw [← HB.out]; omega)
      · by_cases hz : B = 0
        · have hz1 : ((B : Int) == 0) = true := by simp [hz]
          have HZ : Hid (B = 0) := hz
          clear hz
          by_cases hp : 0 < k
          · go_wp2
            go_ret2
            exact ⟨0, 0, rfl, told_nought _ k (by omega) hkl ho.out (by rw [← HB.out]; exact HZ.out) hp, rfl⟩
          · go_wp2
            go_ret2
            refine ⟨_, k + 1, ?_, told_at _ k (by omega) hkl ho.out (by rw [← HB.out]; omega) (.inr (by omega)), rfl⟩
            rw [orTake _ k (by omega) hkl B HB.out]
            first | rfl | simp
        · have hz1 : ((B : Int) == 0) = false := by simp [hz]
          have HZ : Hid (B ≠ 0) := hz
          clear hz
          go_wp2
          go_ret2
          refine ⟨_, k + 1, ?_, told_at _ k (by omega) hkl ho.out (by rw [← HB.out]; omega) (.inl (by rw [← HB.out]; exact HZ.out)), rfl⟩
          rw [orTake _ k (by omega) hkl B HB.out]
          first | rfl | simp
    · have he : k = 7 := by omega
      subst he
      go_wp2
      go_ret2
      exact ⟨0, 0, rfl, told_end _ _ ho.out (by omega), rfl⟩

set_option maxHeartbeats 400000 in
theorem implReadVar_short (s : ByteArray) (w : World) (hs : s.size ≤ 1048576) (h7 : s.size ≤ 7) :
    Calls Tryd.prog 8 #[.string s] w fun e w' => ∃ n k : Nat, e = .returned (.tuple #[.int .i64 n, .int .i64 k]) ∧ Told s.data.toList n k ∧ w' = w := by
  go_enter Tryd.func8, Tryd.ntmps8
  go_wp2
  go_loop [4, 5, 6, 10] (fun n _ _ i => ∃ k : Nat, k ≤ s.size ∧ i = .int .i64 k ∧ n = .int .i64 (val (s.data.toList.take k) : Nat) ∧ Hid (Opens s.data.toList k)) (fun _ _ _ i => 7 - (intOf i).toNat)
  case atStart => exact ⟨0, Nat.zero_le _, rfl, rfl, fun j hj => by omega⟩
  case round =>
    obtain ⟨k, hk, rfl, rfl, ho⟩ := hrel
    by_cases hlt : k < s.size
    · have hks : k < s.size := by omega
      have hkl : k < s.data.toList.length := by simpa using hks
      obtain ⟨B, hB⟩ : ∃ B : Nat, B = s[k].toNat := ⟨_, rfl⟩
      have hB2 : B < 256 := by rw [hB]; exact s[k].toNat_lt
      have hw : wrap64 ((s[k].toNat : Nat) : Int) = (B : Int) := by rw [← hB]; exact wrap64_id _ (by omega) (by omega)
      have HB : Hid (B = s.data.toList[k].toNat) := hB
      clear hB
      by_cases hc : 127 < B
      · go_wp2
        refine ⟨⟨k + 1, by omega, by go_num, ?_, ?_⟩, by simp [intOf]; omega⟩
        · rw [orTake _ k (by omega) hkl B HB.out]
        · exact Opens.succ ho.out hkl (by rw [← HB.out]; omega)
      · by_cases hz : B = 0
        · have hz1 : ((B : Int) == 0) = true := by simp [hz]
          have HZ : Hid (B = 0) := hz
          clear hz
          by_cases hp : 0 < k
          · go_wp2
            go_ret2
            exact ⟨0, 0, rfl, told_nought _ k (by omega) hkl ho.out (by rw [← HB.out]; exact HZ.out) hp, rfl⟩
          · go_wp2
            go_ret2
            refine ⟨_, k + 1, ?_, told_at _ k (by omega) hkl ho.out (by rw [← HB.out]; omega) (.inr (by omega)), rfl⟩
            rw [orTake _ k (by omega) hkl B HB.out]
            first | rfl | simp
        · have hz1 : ((B : Int) == 0) = false := by simp [hz]
          have HZ : Hid (B ≠ 0) := hz
          clear hz
          go_wp2
          go_ret2
          refine ⟨_, k + 1, ?_, told_at _ k (by omega) hkl ho.out (by rw [← HB.out]; omega) (.inl (by rw [← HB.out]; exact HZ.out)), rfl⟩
          rw [orTake _ k (by omega) hkl B HB.out]
          first | rfl | simp
    · have he : k = s.size := by omega
      subst he
      go_wp2
      go_ret2
      exact ⟨0, 0, rfl, told_end _ _ ho.out (by simp), rfl⟩


theorem fits_beq (s : ByteArray) (K N : Nat) (E : ByteArray) (hE : E = ⟨(enc 7 N).toArray⟩) (hN : N = val (s.data.toList.take K)) : (E.toList == (s.extract 0 K).toList) = true ↔ Fits s.data.toList K := by
  rw [Lib.extract_toList, Lib.toList_data, hE, hN, beq_iff_eq]
  simp [Fits]
theorem val_drop (l : List UInt8) (M K : Nat) (hM : M < K) (hK : K ≤ l.length) (B : Nat) (hB : B = (l[M]'(by omega)).toNat) : val ((l.take K).drop M) = val ((l.take K).drop (M + 1)) * 128 + B % 128 := by
  have h : M < (l.take K).length := by simp; omega
  rw [List.drop_eq_getElem_cons h, hB]
  simp only [val, List.getElem_take]
  omega

theorem implReadVar_any (s : ByteArray) (w : World) (hs : s.size ≤ 1048576) :
    Calls Tryd.prog 8 #[.string s] w fun e w' => ∃ n k : Nat, e = .returned (.tuple #[.int .i64 n, .int .i64 k]) ∧ Told s.data.toList n k ∧ w' = w := by
  by_cases h7 : 7 < s.size
  · exact implReadVar_long s w hs h7
  · exact implReadVar_short s w hs (by omega)

end Go.Proofs.YtkjabochhhalhacDoor

