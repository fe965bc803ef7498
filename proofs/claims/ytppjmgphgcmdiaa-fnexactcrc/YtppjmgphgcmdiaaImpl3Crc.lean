/-
  Crc: a whole text.
-/
import Derived.Test.YtppjmgphgcmdiaaImpl2Crc
namespace Go.Proofs.Ytppjmgphgcmdiaa
open Go.ChangeShapes Go.WideShapes Go.ChangeAt Go.RowKit Go.Lib
set_option linter.unusedVariables false

theorem piece_any (b a e : Nat) (s : ByteArray) (w : World) (hs : s.size ≤ 1048576) (hae : a ≤ e) (he : e ≤ s.size) (ht : Halves w b) :
    Calls Try.prog 7 #[.pointer (some ⟨b, 0, none⟩), .int .u32 (crcUpto s a : Nat), .string (s.extract a e)] w fun x w' => x = .returned (.int .u32 (crcUpto s e : Nat)) ∧ w = w' := by
  have := sumOn_any b (crcUpto s a) (s.extract a e) w (by simp [ByteArray.size_extract]; omega) (crcUpto_lt s a) ht
  rw [crcUpto_on s a e hae] at this
  exact this

set_option maxRecDepth 100000 in
set_option maxHeartbeats 400000 in
theorem implCrc_any (s : ByteArray) (w : World) (hs : s.size ≤ 1048576) :
    Calls Try.prog 5 #[.string s] w fun e w' => e = .returned (.int .i64 (crcOf s.data.toList)) ∧ Below w.heap.size w w' := by
  rw [crcUpto_all]
  have C := sumTable_any w
  have hsz := tabTo_size 16
  have hone := tabTo_one 16
  have HAT : Hid (∀ i, i < 16 → (tabTo 16)[i]? = some (.int .u32 (crcBits 4 i : Nat))) := fun i hi => tabTo_at 16 i hi (Nat.le_refl _)
  obtain ⟨T, hT⟩ : ∃ T, T = tabTo 16 := ⟨_, rfl⟩
  rw [← hT] at C hsz hone HAT
  clear hT
  go_enter Try.func5, Try.ntmps5
  go_wp2_with (go_at_call 6; refine C.mono ?_; rintro e w1 ⟨rfl, hb1⟩)
  clear C
  rw [run_storeCells_new w1 25 _ T (by rw [hsz]; exact info25) (by rw [hsz]; rfl) hone]
  simp only [Result.andThen]
  rw [Oper.upon_skip]
  have hbl : Below w.heap.size w (w1.alloc (.cells T 25)) := hb1.alloc hb1.size _
  have hcells : Halves (w1.alloc (.cells T 25)) w1.heap.size := fun i hi => by
    rw [cell_of_row _ _ i T 25 (0, 0) (heap_alloc_last w1 _)]; exact HAT.out i hi
  have hlt2 : w1.heap.size < (w1.alloc (.cells T 25)).heap.size := by simp
  have hw2 : (w1.alloc (.cells T 25)).heap.size = w1.heap.size + 1 := by simp
  have HB : Hid (∀ pos, Below w.heap.size w ((w1.alloc (.cells T 25)).iter s pos)) := fun pos => hbl.trans ((iter_below (w1.alloc (.cells T 25)) s pos).mono (by have := hbl.size; omega))
  have HH : Hid (∀ pos, Halves ((w1.alloc (.cells T 25)).iter s pos) w1.heap.size) := fun pos => hcells.on (iter_below _ s pos) hlt2
  clear hb1 hbl hcells hlt2 HAT hone hsz
  obtain ⟨b, hb⟩ : ∃ b, b = w1.heap.size := ⟨_, rfl⟩
  obtain ⟨w2, hw⟩ : ∃ w2, w2 = w1.alloc (.cells T 25) := ⟨_, rfl⟩
  rw [← hb] at hw2 HH ⊢
  rw [← hw] at hw2 HB HH ⊢
  clear hb hw
  go_wp2
  go_loopw [4, 5] (fun c i wr => ∃ (pos k : Nat), wr = w2.iter s pos ∧ k ≤ pos ∧ k ≤ s.size ∧ i = .int .i64 k ∧ c = .int .u32 (crcUpto s k : Nat)) (fun _ _ wr => s.size - wr.iterPos w2.heap.size)
  case atStart => exact ⟨0, 0, rfl, Nat.le_refl _, Nat.zero_le _, rfl, rfl⟩
  case round =>
    obtain ⟨pos, k, rfl, hk, hks, rfl, rfl⟩ := hrel
    by_cases hp : pos < s.size
    · have hnx := fun ty => run_next_any (P := Try.prog) w2 s pos ty hp
      simp only [hw2] at hnx
      have hwd := decode_wide s pos hp
      have hr := decode_le s pos
      obtain ⟨R, hR⟩ : ∃ R, (Utf8.decode s pos).1 = R := ⟨_, rfl⟩
      obtain ⟨K, hK⟩ : ∃ K, (Utf8.decode s pos).2 = K := ⟨_, rfl⟩
      simp only [hR, hK] at hnx hwd hr
      clear hR hK
      have C := piece_any b k pos s (w2.iter s (pos + K)) hs hk (by omega) (HH.out _)
      go_wp2_with (go_at_call 7; refine C.mono ?_; rintro e w' ⟨rfl, rfl⟩)
      clear C
      go_roundw
      case rel => exact ⟨pos + K, pos, rfl, by omega, by omega, rfl, rfl⟩
      case measure => simp; omega
    · have hnx := fun ty => run_next_end (P := Try.prog) w2 s pos ty hp
      simp only [hw2] at hnx
      have C := piece_any b k s.size s (w2.iter s pos) hs hks (Nat.le_refl _) (HH.out _)
      have hl := crcUpto_lt s s.size
      go_wp2_with (go_at_call 7; refine C.mono ?_; rintro e w' ⟨rfl, rfl⟩)
      go_ret
      exact ⟨rfl, HB.out _⟩
end Go.Proofs.Ytppjmgphgcmdiaa
