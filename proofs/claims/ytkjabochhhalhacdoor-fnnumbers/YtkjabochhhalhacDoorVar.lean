/-
  Var answers as its model at every number. No condition.
-/
import Derived.Test.YtkjabochhhalhacDoorPut
import Derived.Test.YtkjabochhhalhacDoorReadFixed
namespace Go.Proofs.YtkjabochhhalhacDoor
open Go.ChangeShapes Go.WideShapes Go.ChangeAt Go.RowKit
set_option linter.unusedVariables false

theorem varByte (m : Nat) (h : m < 9223372036854775808) : #[Value.int IntKind.u8 (bits BinOp.or IntKind.i64 (bits BinOp.and IntKind.i64 (m : Int) 127) 128 % 256)] = (bcells [UInt8.ofNat (128 + m % 128)]).toArray := by
  rw [and127 m h, or128 _ (by omega)]
  simp [bcells]
theorem varLast (m : Nat) (h : m < 128) : #[Value.int IntKind.u8 (m : Int)] = (bcells [UInt8.ofNat m]).toArray := by
  simp [bcells]
  omega

set_option maxHeartbeats 400000 in
theorem implVar_yes (N : Nat) (w : World) (hN : N ≤ 562949953421311) :
    Calls Tryd.prog 7 #[.int .i64 N] w fun e w' => e = .returned (.string ⟨(enc 7 N).toArray⟩) ∧ Below w.heap.size w w' := by
  have hmk : ∀ w, (Instr.makeSlice 22 (.int .i64 7) (.int .i64 7)).run Tryd.prog w = .ok (.slice (some ⟨w.heap.size, 0, none⟩) 7 7) (w.alloc (.cells (rowOf [] 7).toArray 5 (0, 0))) := fun _ => by kernel_rfl
  go_enter Tryd.func7, Tryd.ntmps7
  go_wp2
  clear hmk
  go_loopw [0, 4] (fun n a wr => ∃ (acc : List UInt8) (f m : Nat), acc.length + f = 7 ∧ 0 < f ∧ m < 128 ^ f ∧ m ≤ 562949953421311 ∧ n = .int .i64 m ∧ a = .int .i64 acc.length ∧ Hid (acc ++ enc f m = enc 7 N) ∧ wr.heap[w.heap.size]? = some (.cells (rowOf acc f).toArray 5 (0, 0)) ∧ Below w.heap.size w wr) (fun n _ _ => (intOf n).toNat)
  case atStart =>
    exact ⟨[], 7, N, rfl, by omega, by have : (128 : Nat) ^ 7 = 562949953421312 := by decide
                                       omega, hN, rfl, rfl, rfl, heap_alloc_new w _, (Below.refl _ _).alloc (Nat.le_refl _) _⟩
  case round =>
    obtain ⟨acc, f, m, hf, hf0, hm, hmb, rfl, rfl, henc, hrow, hnx⟩ := hrel
    have hm' : Hid (m < 128 ^ f) := hm
    clear hm
    have hsz := hnx.size
    by_cases hlt : 127 < m
    · obtain ⟨f', hf'⟩ := pow128_pos m f hm'.out hlt
      subst hf'
      go_wp2_with fail
      refine (put_row wr w.heap.size 7 acc [UInt8.ofNat (128 + m % 128)] (f' + 1) _ (varByte m (by omega)) 1 rfl hrow (by omega) (by omega) (by omega)).mono ?_
      rintro e w2 ⟨rfl, hrow2, hb2⟩
      go_wp2
      refine ⟨⟨acc ++ [UInt8.ofNat (128 + m % 128)], f' + 1, m / 128, by simp; omega, by omega, pow128_div m (f' + 1) hm'.out, by omega, by go_num, by simp, ?_, hrow2, hnx.trans hb2⟩, by simp [intOf]; omega⟩
      exact enc_step acc (f' + 1) m (by omega) _ henc.out
    · obtain ⟨f', rfl⟩ : ∃ f', f = f' + 1 := ⟨f - 1, by omega⟩
      go_wp2_with fail
      refine (put_row wr w.heap.size 7 acc [UInt8.ofNat m] f' _ (varLast m (by omega)) 1 rfl hrow (by omega) (by omega) (by omega)).mono ?_
      rintro e w2 ⟨rfl, hrow2, hb2⟩
      have hconv := conv_row w2 w.heap.size _ f' 7 hrow2
      simp only [List.length_append, List.length_cons, List.length_nil, Nat.zero_add] at hconv
      have H : Hid (acc ++ [UInt8.ofNat m] = enc 7 N) := enc_stop acc (f' + 1) m (by omega) _ henc.out
      clear hrow2 henc hm' hrow
      go_wp2
      go_ret
      rw [H.out]
      exact ⟨rfl, hnx.trans hb2⟩

set_option maxHeartbeats 400000 in
theorem implVar_no (n : Int) (w : World) (h : n < 0 ∨ 562949953421311 < n) :
    Calls Tryd.prog 7 #[.int .i64 n] w fun e w' => e = .returned (.string ⟨#[]⟩) ∧ w' = w := by
  by_cases h1 : n < 0
  · go_enter Tryd.func7, Tryd.ntmps7
    go_wp2
    go_ret
    exact ⟨rfl, rfl⟩
  · have h2 : 562949953421311 < n := by omega
    go_enter Tryd.func7, Tryd.ntmps7
    go_wp2
    go_ret
    exact ⟨rfl, rfl⟩

set_option maxHeartbeats 400000 in
theorem specVar_no (n : Int) (w : World) (h : n < 0 ∨ 562949953421311 < n) :
    Calls Tryd.prog 24 #[.int .i64 n] w fun e w' => e = .returned (.string ⟨#[]⟩) ∧ w' = w := by
  have hy : (decide ((0:Int) ≤ n) && decide (n ≤ 562949953421311)) = false := by simp; omega
  go_enter Tryd.func24, Tryd.ntmps24
  go_wp2_with (go_at_call 33; refine (l1In_any _ _ _ _).mono ?_; rintro e w' ⟨rfl, rfl⟩; rw [hy])
  go_ret
  exact ⟨rfl, rfl⟩

set_option maxRecDepth 100000 in
set_option maxHeartbeats 400000 in
theorem specVar_yes (N : Nat) (w : World) (hN : N ≤ 562949953421311) :
    Calls Tryd.prog 24 #[.int .i64 N] w fun e w' => e = .returned (.string ⟨(enc 7 N).toArray⟩) ∧ Below w.heap.size w w' := by
  have hy : (decide ((0:Int) ≤ N) && decide ((N : Int) ≤ 562949953421311)) = true := by simp; omega
  obtain ⟨i0, hi, hz0, hz1, hz2⟩ := info_parts info5
  go_enter Tryd.func24, Tryd.ntmps24
  go_wp2_with (go_at_call 33; refine (l1In_any _ _ _ _).mono ?_; rintro e w' ⟨rfl, rfl⟩; rw [hy])
  go_loopw [0, 3] (fun n v wr => ∃ (acc : List UInt8) (f m : Nat), acc.length + f = 7 ∧ 0 < f ∧ m < 128 ^ f ∧ m ≤ 562949953421311 ∧ n = .int .i64 m ∧ Hid (acc ++ enc f m = enc 7 N) ∧ wr.ownsRow w.heap.size 5 1 v acc.length (bcells acc) ∧ Below w.heap.size w wr) (fun n _ _ => (intOf n).toNat)
  case atStart =>
    exact ⟨[], 7, N, rfl, by omega, by have : (128 : Nat) ^ 7 = 562949953421312 := by decide
                                       omega, hN, rfl, rfl, World.ownsRow_made w #[] 0 (Nat.le_refl _) (by simp [maxLen]) rfl, (Below.refl _ _).alloc (Nat.le_refl _) _⟩
  case round =>
    obtain ⟨acc, f, m, hf, hf0, hm, hmb, rfl, henc, hown, hnx⟩ := hrel
    have hm' : Hid (m < 128 ^ f) := hm
    clear hm
    have hsz := hnx.size
    by_cases hlt : 127 < m
    · obtain ⟨f', hf'⟩ := pow128_pos m f hm'.out hlt
      subst hf'
      obtain ⟨b, hb⟩ : ∃ b, b = UInt8.ofNat (128 + m % 128) := ⟨_, rfl⟩
      have Hb : Hid (b = UInt8.ofNat (128 + m % 128)) := hb
      have Hv : Hid (#[Value.int IntKind.u8 (128 + (m : Int) % 128)] = (bcells [b]).toArray) := by rw [hb]; simp [bcells, Hid]; omega
      clear hb
      go_wp2_with (at_builtin; refine wpList_app rfl (.tmp 10) (.tmp 15) rfl w wr w.heap.size _ acc [b] _ 1 rfl rfl hown Hv.out rfl (by omega) hsz hnx ?_)
      intro v' w1 hown' hnx'
      clear hown hnx
      go_wp2
      refine ⟨⟨acc ++ [b], f' + 1, m / 128, by simp; omega, by omega, pow128_div m (f' + 1) hm'.out, by omega, by go_num, ?_, by simpa using hown'.out, hnx'⟩, by simp [intOf]; omega⟩
      rw [Hb.out]
      exact enc_step acc (f' + 1) m (by omega) _ henc.out
    · obtain ⟨b, hb⟩ : ∃ b, b = UInt8.ofNat m := ⟨_, rfl⟩
      have Hv : Hid (#[Value.int IntKind.u8 (m : Int)] = (bcells [b]).toArray) := by rw [hb]; simp [bcells, Hid]; omega
      have H : Hid (acc ++ [b] = enc 7 N) := by rw [hb]; exact enc_stop acc f m (by omega) _ henc.out
      clear hb
      go_wp2_with (at_builtin; refine wpList_app rfl (.tmp 19) (.tmp 22) rfl w wr w.heap.size _ acc [b] _ 1 rfl rfl hown Hv.out rfl (by omega) hsz hnx ?_)
      intro v' w1 hown' hnx'
      have hconv := conv_own w1 _ _ _ _ hown'.out
      clear hown hnx hown'
      go_wp2
      go_ret
      rw [H.out]
      exact ⟨rfl, hnx'⟩

end Go.Proofs.YtkjabochhhalhacDoor

