/-
  Fixed answers as its model at every number and every width. No condition.
-/
import Derived.Test.YtkjabochhhalhacDoorVar
import Derived.Test.YtkjabochhhalhacDoorMathFixed
namespace Go.Proofs.YtkjabochhhalhacDoor
open Go.ChangeShapes Go.WideShapes Go.ChangeAt Go.RowKit
set_option linter.unusedVariables false

def fixedOf (W N : Nat) : List UInt8 := if 0 < N / 256 ^ W then [] else fx W N
theorem fixedOf_no {W N : Nat} (h : 0 < N / 256 ^ W) : fixedOf W N = [] := if_pos h
theorem fixedOf_yes {W N : Nat} (h : ¬ 0 < N / 256 ^ W) : fixedOf W N = fx W N := if_neg h
theorem shr_eq (N j : Nat) : (N : Int) / 2 ^ (8 * j) = ((N / 256 ^ j : Nat) : Int) := by
  rw [← two_pow8]; simp
theorem cat_bytes (a b : List UInt8) : (⟨a.toArray⟩ : ByteArray) ++ ⟨b.toArray⟩ = ⟨(a ++ b).toArray⟩ := by
  apply ByteArray.ext
  rw [ByteArray.data_append]
  simp

set_option maxHeartbeats 400000 in
theorem implFixed_no (n W : Int) (w : World) (h : n < 0 ∨ W < 1 ∨ 7 < W) :
    Calls Tryd.prog 9 #[.int .i64 n, .int .i64 W] w fun e w' => e = .returned (.string ⟨#[]⟩) ∧ w' = w := by
  by_cases h1 : W < 1
  · go_enter Tryd.func9, Tryd.ntmps9
    go_wp2
    go_ret
    exact ⟨rfl, rfl⟩
  · by_cases h2 : 7 < W
    · go_enter Tryd.func9, Tryd.ntmps9
      go_wp2
      go_ret
      exact ⟨rfl, rfl⟩
    · have h3 : n < 0 := by omega
      go_enter Tryd.func9, Tryd.ntmps9
      go_wp2
      go_ret
      exact ⟨rfl, rfl⟩

set_option maxHeartbeats 400000 in
theorem implFixed_great (N W : Nat) (w : World) (hN : N ≤ 9223372036854775807) (h1 : 1 ≤ W) (h7 : W ≤ 7) (hf : 0 < N / 256 ^ W) :
    Calls Tryd.prog 9 #[.int .i64 N, .int .i64 W] w fun e w' => e = .returned (.string ⟨#[]⟩) ∧ w' = w := by
  have hq : ((N : Int) / 2 ^ (8 * W) != 0) = true := by rw [shr_eq, bne_iff_ne]; omega
  clear hf
  go_enter Tryd.func9, Tryd.ntmps9
  go_wp2
  go_ret
  exact ⟨rfl, rfl⟩

set_option maxRecDepth 100000 in
set_option maxHeartbeats 400000 in
theorem implFixed_yes (N W : Nat) (w : World) (hN : N ≤ 9223372036854775807) (h1 : 1 ≤ W) (h7 : W ≤ 7) (hf : ¬ 0 < N / 256 ^ W) :
    Calls Tryd.prog 9 #[.int .i64 N, .int .i64 W] w fun e w' => e = .returned (.string ⟨(fx W N).toArray⟩) ∧ Below w.heap.size w w' := by
  have h0 : N / 256 ^ W = 0 := Nat.eq_zero_of_not_pos hf
  have hq : ((N : Int) / 2 ^ (8 * W) != 0) = false := by rw [shr_eq, h0]; rfl
  clear h0
  have hmk := make_bytes W (by omega)
  clear hf
  go_enter Tryd.func9, Tryd.ntmps9
  go_wp2
  clear hmk
  go_loopw [6, 7] (fun a s wr => ∃ (acc : List UInt8) (j : Nat), acc.length + j = W ∧ a = .int .i64 acc.length ∧ s = .int .i64 (8 * (j : Int) - 8) ∧ Hid (acc = fx acc.length (N / 256 ^ j)) ∧ wr.heap[w.heap.size]? = some (.cells (rowOf acc j).toArray 5 (0, 0)) ∧ Below w.heap.size w wr) (fun _ s _ => (intOf s + 8).toNat)
  case atStart => exact ⟨[], W, by simp, rfl, by go_num, rfl, heap_alloc_new w _, (Below.refl _ _).alloc (Nat.le_refl _) _⟩
  case round =>
    obtain ⟨acc, j, hkj, rfl, rfl, hacc, hrow, hnx⟩ := hrel
    have hsz := hnx.size
    by_cases hj : 0 < j
    · obtain ⟨j, rfl⟩ : ∃ i, j = i + 1 := ⟨j - 1, by omega⟩
      rw [show (8 * ((j + 1 : Nat) : Int) - 8) = ((8 * j : Nat) : Int) by omega]
      obtain ⟨b, hb⟩ : ∃ b, b = UInt8.ofNat (N / 256 ^ j % 256) := ⟨_, rfl⟩
      have Hb : Hid (b = UInt8.ofNat (N / 256 ^ j % 256)) := hb
      have Hv : Hid (#[Value.int IntKind.u8 ((N : Int) / 2 ^ (8 * j) % 256)] = (bcells [b]).toArray) := by rw [hb, shr_eq]; simp [bcells, Hid]
      clear hb
      go_wp2_with fail
      refine (put_row wr w.heap.size W acc [b] j _ Hv.out 1 rfl hrow (by omega) (by omega) (by omega)).mono ?_
      rintro e w2 ⟨rfl, hrow2, hb2⟩
      clear hrow
      go_wp2
      refine ⟨⟨acc ++ [b], j, by simp; omega, by simp, by go_num, ?_, hrow2, hnx.trans hb2⟩, by simp [intOf]; omega⟩
      show _ = _
      rw [List.length_append]
      show _ = fx (acc.length + 1) _
      rw [← fx_snoc acc.length _ (N / 256 ^ j) (pow_div N j), ← hacc.out, ← Hb.out]
    · obtain rfl : j = 0 := by omega
      have hconv := conv_row wr w.heap.size acc 0 W hrow
      have H : Hid (acc = fx W N) := by have := hacc.out; simpa [show acc.length = W by omega, Hid] using this
      rw [show acc.length = W by omega] at hconv
      clear hrow hacc
      go_wp2
      go_ret
      rw [H.out]
      exact ⟨rfl, hnx⟩

theorem implFixed_any (N W : Nat) (w : World) (hN : N ≤ 9223372036854775807) (h1 : 1 ≤ W) (h7 : W ≤ 7) :
    Calls Tryd.prog 9 #[.int .i64 N, .int .i64 W] w fun e w' => e = .returned (.string ⟨(fixedOf W N).toArray⟩) ∧ Below w.heap.size w w' := by
  by_cases hf : 0 < N / 256 ^ W
  · refine (implFixed_great N W w hN h1 h7 hf).mono ?_
    rintro e w' ⟨rfl, rfl⟩
    rw [fixedOf_no hf]
    exact ⟨rfl, Below.refl _ _⟩
  · rw [fixedOf_yes hf]
    exact implFixed_yes N W w hN h1 h7 hf

end Go.Proofs.YtkjabochhhalhacDoor

