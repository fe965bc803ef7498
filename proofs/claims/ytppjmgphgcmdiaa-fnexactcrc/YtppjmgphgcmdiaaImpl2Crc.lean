/-
  Crc: the bytes of a text from a sum on; a whole text.
-/
import Derived.Test.YtppjmgphgcmdiaaImplCrc
namespace Go.Proofs.Ytppjmgphgcmdiaa
open Go.ChangeShapes Go.WideShapes Go.ChangeAt Go.RowKit Go.Lib
set_option linter.unusedVariables false

/-- The table of halves of a byte lies at block 'b'. -/
def Halves (w : World) (b : Nat) : Prop := ∀ i : Nat, i < 16 → w.cell? ⟨b, i, none⟩ = some (.int .u32 (crcBits 4 i : Nat))
theorem nib32 (x : Nat) (h : x < 4294967296) : bits BinOp.xor IntKind.u32 ((x : Int) / 16) ((crcBits 4 (x % 16) : Nat) : Int) = ((crcBits 4 x : Nat) : Int) := by
  have := xor32 (x / 16) (crcBits 4 (x % 16)) (by omega) (crcBits_lt 4 _ (by omega))
  rw [crcBits_low 4 x, ← this]
  rfl

set_option maxRecDepth 100000 in
set_option maxHeartbeats 400000 in
theorem sumOn_any (b c0 : Nat) (s : ByteArray) (w : World) (hs : s.size ≤ 1048576) (hc0 : c0 < 4294967296) (ht : Halves w b) :
    Calls Try.prog 7 #[.pointer (some ⟨b, 0, none⟩), .int .u32 c0, .string s] w fun e w' => e = .returned (.int .u32 (crcRun c0 s.data.toList : Nat)) ∧ w = w' := by
  have HT : Hid (∀ i : Nat, i < 16 → w.cell? ⟨b, i, none⟩ = some (.int .u32 (crcBits 4 i : Nat))) := ht
  clear ht
  go_enter Try.func7, Try.ntmps7
  go_wp2
  go_loop [1, 10] (fun c i => ∃ k : Nat, k ≤ s.size ∧ i = .int .i64 k ∧ c = .int .u32 (crcRun c0 (s.data.toList.take k) : Nat)) (fun _ i => s.size - (intOf i).toNat)
  case atStart => exact ⟨0, Nat.zero_le _, rfl, rfl⟩
  case round =>
    obtain ⟨k, hk', rfl, rfl⟩ := hrel
    by_cases hlt : k < s.size
    · have hb := crcRun_lt (s.data.toList.take k) c0 hc0
      obtain ⟨c, hc⟩ : ∃ c, c = crcRun c0 (s.data.toList.take k) := ⟨_, rfl⟩
      have hn : crcRun c0 (s.data.toList.take (k + 1)) = crcBits 4 (crcBits 4 (c ^^^ s[k].toNat)) := by
        rw [take_snoc s k hlt, crcRun_snoc, ← hc, ← crcBits_add]; rfl
      have HN : Hid (crcRun c0 (s.data.toList.take (k + 1)) = crcBits 4 (crcBits 4 (c ^^^ s[k].toNat))) := hn
      clear hn
      rw [← hc] at hb ⊢
      have hx := crcXor_lt c s[k] hb
      have hs8 := s[k].toNat_lt
      have e1 : bits BinOp.xor IntKind.u32 (c : Int) (s[k].toNat : Int) = ((c ^^^ s[k].toNat : Nat) : Int) := xor32 _ _ hb (by omega)
      clear hc
      obtain ⟨x, hx'⟩ : ∃ x, x = c ^^^ s[k].toNat := ⟨_, rfl⟩
      rw [← hx'] at e1 hx HN
      clear hx'
      have a1 := and15 x hx
      have g1 := HT.out (x % 16) (by omega)
      have n1 := nib32 x hx
      have hy := crcBits_lt 4 x hx
      have m1 : x % 16 < 16 := by omega
      obtain ⟨i, hi⟩ : ∃ i, i = x % 16 := ⟨_, rfl⟩
      rw [← hi] at a1 g1 n1 m1
      obtain ⟨p, hp⟩ : ∃ p, p = crcBits 4 i := ⟨_, rfl⟩
      rw [← hp] at g1 n1
      obtain ⟨y, hy'⟩ : ∃ y, y = crcBits 4 x := ⟨_, rfl⟩
      rw [← hy'] at hy n1 HN
      clear hi hp hy'
      have a2 := and15 y hy
      have g2 := HT.out (y % 16) (by omega)
      have n2 := nib32 y hy
      have m2 : y % 16 < 16 := by omega
      obtain ⟨j, hj⟩ : ∃ j, j = y % 16 := ⟨_, rfl⟩
      rw [← hj] at a2 g2 n2 m2
      obtain ⟨q, hq⟩ : ∃ q, q = crcBits 4 j := ⟨_, rfl⟩
      rw [← hq] at g2 n2
      obtain ⟨z, hz⟩ : ∃ z, z = crcBits 4 y := ⟨_, rfl⟩
      rw [← hz] at n2 HN
      clear hj hq hz
      go_wp2
      exact ⟨⟨k + 1, by omega, by go_num, by rw [HN.out]⟩, by simp [intOf]; omega⟩
    · obtain rfl : k = s.size := by omega
      have hb := crcRun_lt s.data.toList c0 hc0
      have ht : s.data.toList.take s.size = s.data.toList := List.take_of_length_le (by simp)
      go_wp2
      go_ret
      exact ⟨rfl, rfl⟩

theorem decode_wide (s : ByteArray) (pos : Nat) (h : pos < s.size) : 1 ≤ (Utf8.decode s pos).2 := by
  by_cases ha : s[pos].toNat < 128
  · rw [decode_ascii s pos h ha]; exact Nat.le_refl _
  · exact (decode_high s pos h (by omega)).2
/-- The sum of a text's first 'k' bytes. -/
def crcUpto (s : ByteArray) (k : Nat) : Nat := crcRun 4294967295 (s.data.toList.take k)
theorem crcUpto_lt (s : ByteArray) (k : Nat) : crcUpto s k < 4294967296 := crcRun_lt _ _ (by omega)
theorem crcUpto_all (s : ByteArray) : crcOf s.data.toList = 4294967295 - (crcUpto s s.size : Nat) := by
  unfold crcUpto crcOf; rw [List.take_of_length_le (by simp)]
/-- A piece more. -/
theorem crcUpto_on (s : ByteArray) (a b : Nat) (h : a ≤ b) : crcRun (crcUpto s a) (s.extract a b).data.toList = crcUpto s b := by
  unfold crcUpto crcRun
  rw [← List.foldl_append]
  congr 1
  have : (s.extract a b).data.toList = (s.data.toList.take b).drop a := by
    simp [ByteArray.data_extract, List.drop_take]
  rw [this]
  have ht : s.data.toList.take a = (s.data.toList.take b).take a := by rw [List.take_take, Nat.min_eq_left h]
  rw [ht, List.take_append_drop]
theorem iter_below (w : World) (s : ByteArray) (pos : Nat) : Below w.heap.size w (w.iter s pos) := (Below.refl _ _).alloc (Nat.le_refl _) _
theorem Halves.on {w w' : World} {b : Nat} (h : Halves w b) (hb : Below w.heap.size w w') (hlt : b < w.heap.size) : Halves w' b := fun i hi => by
  rw [← h i hi]; exact hb.cell hlt
end Go.Proofs.Ytppjmgphgcmdiaa
