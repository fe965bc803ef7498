/-
  Crc answers as its model at every text.
-/
import Derived.Test.YtppjmgphgcmdiaaRows
import Derived.Test.YtppjmgphgcmdiaaMathCrc
import Derived.WalkKit
import Derived.WalkSpells
import Derived.WalkLawsBesides
import Derived.Laws.BitsLemmas
import Derived.Outline
import Derived.ProofKit
import Derived.OpenShut
import Derived.ShutString
namespace Go.Proofs.Ytppjmgphgcmdiaa
open Go.ChangeShapes Go.WideShapes Go.ChangeAt Go.RowKit Go.Lib
set_option linter.unusedVariables false

theorem wrap64_id (n : Int) (h0 : 0 ≤ n) (h1 : n < 4611686018427387904) : wrap64 n = n := by unfold wrap64; omega
theorem take_snoc (s : ByteArray) (k : Nat) (h : k < s.size) : s.data.toList.take (k + 1) = s.data.toList.take k ++ [s[k]] := by
  rw [List.take_add_one]
  have hk : k < s.data.toList.length := by simpa using h
  rw [List.getElem?_eq_getElem hk]
  simp
  rfl
theorem wrap63 (n : Int) (h0 : 0 ≤ n) (h1 : n < 2 ^ 63) : IntKind.i64.wrap n = n := by rw [IntKind.wrap_i64]; omega
theorem xor64 (a b : Nat) (ha : a < 4294967296) (hb : b < 4294967296) : bits BinOp.xor IntKind.i64 (a : Int) (b : Int) = ((a ^^^ b : Nat) : Int) := by
  have hx : a ^^^ b < 4294967296 := Nat.xor_lt_two_pow (n := 32) ha hb
  have ha' : a % 2 ^ IntKind.i64.bits = a := Nat.mod_eq_of_lt (by show a < 2 ^ 64; omega)
  have hb' : b % 2 ^ IntKind.i64.bits = b := Nat.mod_eq_of_lt (by show b < 2 ^ 64; omega)
  simp only [bits, BitVec.ofInt_natCast, BitVec.toNat_xor, BitVec.toNat_ofNat, ha', hb']
  exact wrap63 _ (Int.natCast_nonneg _) (by omega)

set_option maxRecDepth 100000 in
set_option maxHeartbeats 400000 in
theorem specCrc_any (s : ByteArray) (w : World) (hs : s.size ≤ 1048576) :
    Calls Try.prog 4 #[.string s] w fun e w' => e = .returned (.int .i64 (crcOf s.data.toList)) ∧ w = w' := by
  go_enter Try.func4, Try.ntmps4
  go_wp2
  go_loop [3, 4] (fun c i => ∃ k : Nat, k ≤ s.size ∧ i = .int .i64 k ∧ c = .int .i64 (crcRun 4294967295 (s.data.toList.take k) : Nat)) (fun _ i => s.size - (intOf i).toNat)
  case atStart => exact ⟨0, Nat.zero_le _, rfl, rfl⟩
  case round =>
    obtain ⟨k, hk', rfl, rfl⟩ := hrel
    by_cases hlt : k < s.size
    · have hb := crcRun_lt (s.data.toList.take k) 4294967295 (by omega)
      obtain ⟨c, hc⟩ : ∃ c, c = crcRun 4294967295 (s.data.toList.take k) := ⟨_, rfl⟩
      have hn : crcRun 4294967295 (s.data.toList.take (k + 1)) = crcBits 8 (c ^^^ s[k].toNat) := by rw [take_snoc s k hlt, crcRun_snoc, ← hc]; rfl
      have HN : Hid (crcRun 4294967295 (s.data.toList.take (k + 1)) = crcBits 8 (c ^^^ s[k].toNat)) := hn
      rw [← hc] at hb ⊢
      have hx := crcXor_lt c s[k] hb
      have hs8 := s[k].toNat_lt
      have e1 : bits BinOp.xor IntKind.i64 (c : Int) (s[k].toNat : Int) = ((c ^^^ s[k].toNat : Nat) : Int) := xor64 _ _ hb (by omega)
      clear hn hc
      obtain ⟨x, hx'⟩ : ∃ x, x = c ^^^ s[k].toNat := ⟨_, rfl⟩
      rw [← hx'] at e1 hx HN
      clear hx'
      go_wp2
      go_loop [3, 5] (fun c j => ∃ i : Nat, i ≤ 8 ∧ j = .int .i64 i ∧ c = .int .i64 (crcBits i x : Nat)) (fun _ j => 8 - (intOf j).toNat)
      case atStart => exact ⟨0, Nat.zero_le _, rfl, by rw [crcBits, ← e1]⟩
      case round =>
        obtain ⟨i, hi', rfl, rfl⟩ := hrel
        by_cases hi : i < 8
        · have hy := crcBits_lt i x hx
          have hn := crcBits_snoc i x
          obtain ⟨y, hy'⟩ : ∃ y, y = crcBits i x := ⟨_, rfl⟩
          rw [← hy'] at hy hn ⊢
          clear hy'
          by_cases ho : y % 2 = 1
          · have e2 : bits BinOp.xor IntKind.i64 ((y : Int) / 2) 2197175160 = ((crcBit y : Nat) : Int) := by
              have := xor64 (y / 2) 2197175160 (by omega) (by omega)
              rw [crcBit, if_pos ho, ← this]
              rfl
            go_wp2
            exact ⟨⟨i + 1, by omega, by go_num, by rw [hn]⟩, by simp [intOf]; omega⟩
          · have e2 : (y : Int) / 2 = ((crcBit y : Nat) : Int) := by rw [crcBit, if_neg ho]; rfl
            go_wp2
            exact ⟨⟨i + 1, by omega, by go_num, by rw [hn]⟩, by simp [intOf]; omega⟩
        · obtain rfl : i = 8 := by omega
          go_wp2
          exact ⟨⟨k + 1, by omega, by go_num, by rw [HN.out]⟩, by simp [intOf]; omega⟩
    · obtain rfl : k = s.size := by omega
      have hb := crcRun_lt s.data.toList 4294967295 (by omega)
      have ht : s.data.toList.take s.size = s.data.toList := List.take_of_length_le (by simp)
      go_wp2
      go_ret
      exact ⟨rfl, rfl⟩
end Go.Proofs.Ytppjmgphgcmdiaa
