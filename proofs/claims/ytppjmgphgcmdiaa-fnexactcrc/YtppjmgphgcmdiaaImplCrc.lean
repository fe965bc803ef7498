/-
  Crc's helpers: a bit, the table of halves of a byte, the bytes of a text from a sum on.
-/
import Derived.Test.YtppjmgphgcmdiaaSpecCrc
import Derived.Laws.RangeAny
import Derived.Laws.IdiomStrings
import Derived.Laws.ResultCell
import Derived.Deep.WholeRow
namespace Go.Proofs.Ytppjmgphgcmdiaa
open Go.ChangeShapes Go.WideShapes Go.ChangeAt Go.RowKit Go.Lib
set_option linter.unusedVariables false

theorem wrap32 (n : Int) (h0 : 0 ≤ n) (h1 : n < 2 ^ 32) : IntKind.u32.wrap n = n := by
  simp only [IntKind.wrap, IntKind.signed, IntKind.bits]; simp; omega
theorem xor32 (a b : Nat) (ha : a < 4294967296) (hb : b < 4294967296) : bits BinOp.xor IntKind.u32 (a : Int) (b : Int) = ((a ^^^ b : Nat) : Int) := by
  have hx : a ^^^ b < 4294967296 := Nat.xor_lt_two_pow (n := 32) ha hb
  have ha' : a % 2 ^ IntKind.u32.bits = a := Nat.mod_eq_of_lt (by show a < 2 ^ 32; omega)
  have hb' : b % 2 ^ IntKind.u32.bits = b := Nat.mod_eq_of_lt (by show b < 2 ^ 32; omega)
  simp only [bits, BitVec.ofInt_natCast, BitVec.toNat_xor, BitVec.toNat_ofNat, ha', hb']
  exact wrap32 _ (Int.natCast_nonneg _) (by omega)
theorem and15 (x : Nat) (h : x < 4294967296) : bits BinOp.and IntKind.u32 (x : Int) 15 = ((x % 16 : Nat) : Int) :=
  bits_mask .u32 32 (by decide) wrap32 4 (by decide) (x : Int) (by omega) (by omega)
theorem and1 (x : Nat) (h : x < 4294967296) : bits BinOp.and IntKind.u32 (x : Int) 1 = ((x % 2 : Nat) : Int) :=
  bits_mask .u32 32 (by decide) wrap32 1 (by decide) (x : Int) (by omega) (by omega)

set_option maxHeartbeats 400000 in
theorem sumHalf_any (c : Nat) (w : World) (hc : c < 4294967296) :
    Calls Try.prog 8 #[.int .u32 c] w fun e w' => e = .returned (.int .u32 (crcBit c : Nat)) ∧ w = w' := by
  have a1 := and1 c hc
  by_cases ho : c % 2 = 1
  · have e2 : bits BinOp.xor IntKind.u32 ((c : Int) / 2) 2197175160 = ((crcBit c : Nat) : Int) := by
      have := xor32 (c / 2) 2197175160 (by omega) (by omega)
      rw [crcBit, if_pos ho, ← this]
      rfl
    rw [ho] at a1
    go_enter Try.func8, Try.ntmps8
    go_wp2
    go_ret
    exact ⟨rfl, rfl⟩
  · have e2 : (c : Int) / 2 = ((crcBit c : Nat) : Int) := by rw [crcBit, if_neg ho]; rfl
    rw [show c % 2 = 0 by omega] at a1
    go_enter Try.func8, Try.ntmps8
    go_wp2
    go_ret
    exact ⟨rfl, rfl⟩

/-- The table when 'k' of its halves are laid. -/
def tabTo : Nat → Array Value
  | 0 => Array.replicate 16 (.int .u32 0)
  | k + 1 => (tabTo k).setIfInBounds k (.int .u32 (crcBits 4 k : Nat))
theorem tabTo_size (k : Nat) : (tabTo k).size = 16 := by
  induction k with
  | zero => rfl
  | succ k ih => rw [tabTo, Array.size_setIfInBounds, ih]
theorem tabTo_one (k : Nat) : (tabTo k).all (·.oneCell') = true := by
  rw [Array.all_eq_true_iff_forall_mem]
  induction k with
  | zero => intro x hx; obtain ⟨_, rfl⟩ := Array.mem_replicate.1 hx; rfl
  | succ k ih =>
    intro x hx
    rcases Array.mem_or_eq_of_mem_setIfInBounds hx with h | rfl
    · exact ih x h
    · rfl
theorem tabTo_at (k i : Nat) (hi : i < k) (hk : k ≤ 16) : (tabTo k)[i]? = some (.int .u32 (crcBits 4 i : Nat)) := by
  induction k with
  | zero => omega
  | succ k ih =>
    rw [tabTo]
    by_cases h : i = k
    · subst h
      rw [Array.getElem?_setIfInBounds_self_of_lt (by rw [tabTo_size]; omega)]
    · rw [Array.getElem?_setIfInBounds_ne (by omega)]
      exact ih (by omega) (by omega)
theorem tabTo16 : tabTo 16 = #[.int .u32 0, .int .u32 274646895, .int .u32 549293790, .int .u32 820201905, .int .u32 1098587580, .int .u32 1361435347, .int .u32 1640403810, .int .u32 1905808397, .int .u32 2197175160, .int .u32 2460548119, .int .u32 2722870694, .int .u32 2987750089, .int .u32 3280807620, .int .u32 3553878443, .int .u32 3811616794, .int .u32 4084100981] := by kernel_rfl
theorem tabTo0 : tabTo 0 = #[.int .u32 0, .int .u32 0, .int .u32 0, .int .u32 0, .int .u32 0, .int .u32 0, .int .u32 0, .int .u32 0, .int .u32 0, .int .u32 0, .int .u32 0, .int .u32 0, .int .u32 0, .int .u32 0, .int .u32 0, .int .u32 0] := rfl
theorem info25 : (Try.prog.info? 25).map (·.size) = some 16 := by kernel_rfl

set_option maxRecDepth 100000 in
set_option maxHeartbeats 400000 in
theorem sumTable_any (w : World) :
    Calls Try.prog 6 #[] w fun e w' => e = .returned (.agg (tabTo 16)) ∧ Below w.heap.size w w' := by
  go_enter Try.func6, Try.ntmps6
  go_wp2
  go_loopw [4] (fun s4 wr => ∃ k : Nat, k ≤ 16 ∧ s4 = .int .i64 k ∧ wr = (w.alloc (.cells (tabTo 0) 25)).alloc (.cells (tabTo k) 25)) (fun s4 _ => 16 - (intOf s4).toNat)
  case atStart => exact ⟨0, Nat.zero_le _, rfl, rfl⟩
  case round =>
    obtain ⟨k, hk, rfl, rfl⟩ := hrel
    have hz := tabTo_size 0
    obtain ⟨z, hz'⟩ : ∃ z, z = tabTo 0 := ⟨_, rfl⟩
    rw [← hz'] at hz ⊢
    by_cases hlt : k < 16
    · have hs := tabTo_size k
      have HN : Hid (tabTo (k + 1) = (tabTo k).setIfInBounds k (.int .u32 (crcBits 4 k : Nat))) := rfl
      obtain ⟨T, hT⟩ : ∃ T, T = tabTo k := ⟨_, rfl⟩
      rw [← hT] at hs HN ⊢
      have HZ : Hid (z = tabTo 0) := hz'
      clear hT hz'
      go_wp2
      have hd : decide ((k : Int) < 16) = true := by simp; omega
      simp only [hd]
      go_loopw [3, 9] (fun c j wr => wr = (w.alloc (.cells z 25)).alloc (.cells T 25) ∧ ∃ i : Nat, i ≤ 4 ∧ j = .int .i64 i ∧ c = .int .u32 (crcBits i k : Nat)) (fun _ j _ => 4 - (intOf j).toNat)
      case atStart => exact ⟨rfl, 0, Nat.zero_le _, rfl, by go_num⟩
      case round =>
        obtain ⟨rfl, i, hi', rfl, rfl⟩ := hrel
        by_cases hi : i < 4
        · have hy := crcBits_lt i k (by omega)
          have HM : Hid (crcBits (i + 1) k = crcBit (crcBits i k)) := crcBits_snoc i k
          obtain ⟨y, hy'⟩ : ∃ y, y = crcBits i k := ⟨_, rfl⟩
          rw [← hy'] at hy HM ⊢
          clear hy'
          have C := fun w => sumHalf_any y w hy
          go_wp2_with (go_at_call 8; refine (C _).mono ?_; rintro e w' ⟨rfl, rfl⟩)
          go_roundw
          case rel => exact ⟨trivial, i + 1, by omega, by go_num, by rw [HM.out]⟩
          case measure => simp [intOf]; omega
        · obtain rfl : i = 4 := by omega
          go_wp2
          go_roundw
          case rel => exact ⟨k + 1, by omega, by go_num, by rw [HN.out]⟩
          case measure => simp [intOf]; omega
    · obtain rfl : k = 16 := by omega
      rw [tabTo16]
      clear hz
      subst hz'
      rw [tabTo0]
      go_wp2
      refine bodyPost_ret (v := .agg (tabTo 16)) (by simp [results, go_sem, tabTo16]) rfl ⟨rfl, ((Below.refl _ _).alloc (Nat.le_refl _) _).alloc (by simp) _⟩
end Go.Proofs.Ytppjmgphgcmdiaa
