/-
  Unhex answers as its model at every text of at most 1048576 bytes, which is all that the law asks. No condition.
-/
import Derived.Test.YtkjabochhhalhacDoorHex
import Derived.Deep.QuietTactic
import Derived.BigQuiet
import Derived.ProofKit
import Derived.OpenShut
import Derived.ShutString
namespace Go.Proofs.YtkjabochhhalhacDoor
open Go.ChangeShapes Go.WideShapes Go.ChangeAt Go.RowKit
open Go.ChangeMaps (open_string shut_string)
set_option linter.unusedVariables false

set_option maxHeartbeats 400000 in
theorem hexValue_any (B : Nat) (w : World) (hB : B < 256) :
    Calls Tryd.prog 23 #[.int .u8 B] w fun e w' => e = .returned (.int .i64 (hexv B)) ∧ w' = w := by
  by_cases h1 : 48 ≤ B ∧ B ≤ 57
  · have HV : Hid (hexv B = (B : Int) - 48) := if_pos h1
    have h2 := h1.1
    have h3 := h1.2
    clear h1
    go_enter Tryd.func23, Tryd.ntmps23
    go_wp2
    go_ret
    refine ⟨?_, rfl⟩
    rw [HV.out]
    first | rfl | (show Ending.returned (Value.int _ _) = _; congr 2; omega)
  · by_cases h4 : 97 ≤ B ∧ B ≤ 102
    · have HV : Hid (hexv B = (B : Int) - 87) := by show _ = _; unfold hexv; rw [if_neg h1, if_pos h4]
      have h2 := h4.1
      have h3 := h4.2
      clear h1 h4
      go_enter Tryd.func23, Tryd.ntmps23
      go_wp2
      go_ret
      refine ⟨?_, rfl⟩
      rw [HV.out]
      first | rfl | (show Ending.returned (Value.int _ _) = _; congr 2; omega)
    · have HV : Hid (hexv B = -1) := by show _ = _; unfold hexv; rw [if_neg h1, if_neg h4]
      rcases (show B < 48 ∨ (57 < B ∧ B < 97) ∨ 102 < B by omega) with h | ⟨h, h'⟩ | h
      all_goals
        clear h1 h4
        go_enter Tryd.func23, Tryd.ntmps23
        go_wp2
        go_ret
        refine ⟨?_, rfl⟩
        rw [HV.out]
        rfl

set_option maxHeartbeats 400000 in
theorem implUnhex_odd (s : ByteArray) (w : World) (hs : s.size ≤ 1048576) (h2 : s.size % 2 = 1) :
    Calls Tryd.prog 13 #[.string s] w fun e w' => e = .returned (.tuple #[.string ⟨(unhexL s.data.toList).toArray⟩, .bool (unhexB s.data.toList)]) ∧ Below w.heap.size w w' := by
  have hq : (((s.size : Nat) : Int) % 2 != 0) = true := by simp; omega
  have HN : Hid (unhexL s.data.toList = [] ∧ unhexB s.data.toList = false) := unhex_none (unhex_odd _ (by simpa using h2))
  go_enter Tryd.func13, Tryd.ntmps13
  go_wp2
  go_ret2
  rw [HN.out.1, HN.out.2]
  exact ⟨rfl, Below.refl _ _⟩

/-- 'put_row' behind so many draws. -/
theorem put_row_drewN (wr : World) (q g n : Nat) (acc new : List UInt8) (f : Nat) (vs : Array Value) (hvs : vs = (bcells new).toArray) (k : Nat) (hk : new.length = k) (hg : wr.heap[g]? = some (.cells (rowOf acc (f + k)).toArray 5 (0, 0)))
    (hn : acc.length + (f + k) = n) (hk0 : 0 < k) (hb : n ≤ 140737488355328) :
    Calls Tryd.prog 19 #[.slice (some ⟨g, 0, none⟩) n n, .int .i64 acc.length, .slice (some ⟨wr.heap.size, 0, none⟩) k k] ((wr.drewN q).alloc (.cells vs 5)) fun e w' =>
      e = .returned (.int .i64 (acc.length + k : Nat)) ∧ w'.heap[g]? = some (.cells (rowOf (acc ++ new) f).toArray 5 (0, 0)) ∧ Below g wr w' := by
  refine (put_row (wr.drewN q) g n acc new f vs hvs k hk hg hn hk0 hb).mono ?_
  rintro e w' ⟨h1, h2, h3⟩
  exact ⟨h1, h2, (below_drewN (Below.refl g wr) q).trans h3⟩

theorem orHex (X Y : Nat) (hX : X < 16) (hY : Y < 16) : bits BinOp.or IntKind.i64 ((X : Int) * 16) (Y : Int) = ((16 * X + Y : Nat) : Int) := by
  rw [bits_join .i64 63 (by decide) wraps_i64 4 _ _ (by omega) (by omega) (by omega) (by omega) (by omega) (by omega)]
  omega

set_option maxRecDepth 100000 in
set_option maxHeartbeats 1000000 in
theorem implUnhex_even (s : ByteArray) (w : World) (hs : s.size ≤ 1048576) (h2 : s.size % 2 = 0) :
    Calls Tryd.prog 13 #[.string s] w fun e w' => e = .returned (.tuple #[.string ⟨(unhexL s.data.toList).toArray⟩, .bool (unhexB s.data.toList)]) ∧ Below w.heap.size w w' := by
  have hq : (((s.size : Nat) : Int) % 2 != 0) = false := by simp; omega
  have hmk := make_bytes (s.size / 2) (by omega)
  rw [show ((s.size / 2 : Nat) : Int) = (s.size : Int) / 2 by omega] at hmk
  go_enter Tryd.func13, Tryd.ntmps13
  go_wp2
  clear hmk
  go_loopw [5, 6, 7, 8] (fun a i _ _ wr => ∃ (acc : List UInt8) (J : Nat), J ≤ s.size ∧ J % 2 = 0 ∧ acc.length ≤ 1048576 ∧ Hid (2 * acc.length = J) ∧ a = .int .i64 acc.length ∧ i = .int .i64 J ∧ Hid (unhex (s.data.toList.take J) = some acc) ∧ wr.heap[w.heap.size]? = some (.cells (rowOf acc (s.size / 2 - acc.length)).toArray 5 (0, 0)) ∧ Below w.heap.size w wr) (fun _ i _ _ _ => s.size - (intOf i).toNat)
  case atStart => exact ⟨[], 0, by omega, rfl, by simp, rfl, rfl, rfl, rfl, heap_alloc_new w _, (Below.refl _ _).alloc (Nat.le_refl _) _⟩
  case round =>
    obtain ⟨acc, J, hJ, hJ2, hal, hal2, rfl, rfl, hacc, hrow, hnx⟩ := hrel
    have hsz := hnx.size
    by_cases hlt : J < s.size
    · have hJ1 : J + 1 < s.size := by omega
      obtain ⟨A, hA⟩ : ∃ A : Nat, A = s[J].toNat := ⟨_, rfl⟩
      obtain ⟨B, hB⟩ : ∃ B : Nat, B = s[J + 1].toNat := ⟨_, rfl⟩
      have hA2 : A < 256 := by rw [hA]; exact s[J].toNat_lt
      have hB2 : B < 256 := by rw [hB]; exact s[J + 1].toNat_lt
      have HA : Hid (A = s[J].toNat) := hA
      have HB : Hid (B = s[J + 1].toNat) := hB
      have hA0 : ((s[J].toNat : Nat) : Int) = (A : Int) := by rw [hA]
      have hB0 : ((s[J + 1].toNat : Nat) : Int) = (B : Int) := by rw [hB]
      clear hA hB
      obtain ⟨x, hx⟩ : ∃ x : Int, x = hexv A := ⟨_, rfl⟩
      obtain ⟨y, hy⟩ : ∃ y : Int, y = hexv B := ⟨_, rfl⟩
      have hx1 : -1 ≤ x := by rw [hx]; exact (hexv_lt A).1
      have hx2 : x < 16 := by rw [hx]; exact (hexv_lt A).2
      have hy1 : -1 ≤ y := by rw [hy]; exact (hexv_lt B).1
      have hy2 : y < 16 := by rw [hy]; exact (hexv_lt B).2
      have c1 := fun w => hexValue_any A w hA2
      have c2 := fun w => hexValue_any B w hB2
      rw [← hx] at c1
      rw [← hy] at c2
      have C1 : Hid (∀ w, _) := c1
      have C2 : Hid (∀ w, _) := c2
      have HX : Hid (x = hexv s[J].toNat) := by show _ = _; rw [hx, HA.out]
      have HY : Hid (y = hexv s[J + 1].toNat) := by show _ = _; rw [hy, HB.out]
      clear c1 c2 hx hy HA HB
      by_cases hbad : x < 0 ∨ y < 0
      · have HN : Hid (unhexL s.data.toList = [] ∧ unhexB s.data.toList = false) := unhex_none (unhex_bad s J hJ1 acc hacc.out (by rw [← HX.out, ← HY.out]; exact hbad))
        clear hrow
        go_wp2
        go_quiet ((first | (go_at_call_of 23 (A : Int); exact Calls.quiet_of_same (C1.out _)) | (go_at_call_of 23 (B : Int); exact Calls.quiet_of_same (C2.out _))))
        by_cases hxn : x < 0
        · go_wp2
          go_ret2
          rw [HN.out.1, HN.out.2]
          exact ⟨rfl, below_drewN hnx _⟩
        · have hyn : y < 0 := by omega
          go_wp2
          go_ret2
          rw [HN.out.1, HN.out.2]
          exact ⟨rfl, below_drewN hnx _⟩
      · obtain ⟨X, rfl⟩ := Int.eq_ofNat_of_zero_le (show 0 ≤ x by omega)
        obtain ⟨Y, rfl⟩ := Int.eq_ofNat_of_zero_le (show 0 ≤ y by omega)
        have HM : Hid (unhex (s.data.toList.take (J + 2)) = some (acc ++ [UInt8.ofNat (16 * X + Y)])) := by
          have := unhex_more s J hJ1 acc hacc.out (by rw [← HX.out, ← HY.out]; exact hbad)
          rw [← HX.out, ← HY.out] at this
          exact this
        obtain ⟨b, hb⟩ : ∃ b, b = UInt8.ofNat (16 * X + Y) := ⟨_, rfl⟩
        rw [← hb] at HM
        have hXY : 16 * X + Y < 256 := by omega
        have hor := orHex X Y (by omega) (by omega)
        have Hv : Hid (#[Value.int IntKind.u8 (16 * (X : Int) + (Y : Int))] = (bcells [b]).toArray) := by
          rw [Hid, hb]; simp [bcells]; omega
        have hrow' : wr.heap[w.heap.size]? = some (.cells (rowOf acc (s.size / 2 - (acc.length + 1) + 1)).toArray 5 (0, 0)) := by
          have := hal2.out
          rw [show s.size / 2 - (acc.length + 1) + 1 = s.size / 2 - acc.length by omega]; exact hrow
        have Hn : Hid (acc.length + (s.size / 2 - (acc.length + 1) + 1) = s.size / 2) := by have := hal2.out; show _ = _; omega
        clear hb HX HY hbad hrow
        go_wp2
        go_quiet ((first | (go_at_call_of 23 (A : Int); exact Calls.quiet_of_same (C1.out _)) | (go_at_call_of 23 (B : Int); exact Calls.quiet_of_same (C2.out _))))
        go_wp2_with fail
        refine (put_row_drewN wr nq w.heap.size (s.size / 2) acc [b] (s.size / 2 - (acc.length + 1)) _ Hv.out 1 rfl hrow' Hn.out (by omega) (by omega)).mono ?_
        rintro e w2 ⟨rfl, hrow2, hb2⟩
        clear C1 C2 hrow' hor
        go_wp2
        refine ⟨⟨acc ++ [b], J + 2, by omega, by omega, ?_, ?_, by simp, by go_num, HM.out, ?_, hnx.trans hb2⟩, by simp [intOf]; omega⟩
        · have := hal2.out; simp; omega
        · have := hal2.out; show _ = _; simp; omega
        · simpa using hrow2
    · obtain rfl : J = s.size := by omega
      have hal3 : acc.length = s.size / 2 := by have := hal2.out; omega
      have hconv := conv_row wr w.heap.size acc _ (s.size / 2) hrow
      rw [hal3] at hconv
      have H : Hid (unhexL s.data.toList = acc ∧ unhexB s.data.toList = true) := unhex_some (by have := hacc.out; rwa [List.take_of_length_le (by simp)] at this)
      clear hrow hacc hal3
      go_wp2
      go_ret2
      rw [H.out.1, H.out.2]
      exact ⟨rfl, hnx⟩

theorem implUnhex_any (s : ByteArray) (w : World) (hs : s.size ≤ 1048576) :
    Calls Tryd.prog 13 #[.string s] w fun e w' => e = .returned (.tuple #[.string ⟨(unhexL s.data.toList).toArray⟩, .bool (unhexB s.data.toList)]) ∧ Below w.heap.size w w' := by
  by_cases h : s.size % 2 = 0
  · exact implUnhex_even s w hs h
  · exact implUnhex_odd s w hs (by omega)

end Go.Proofs.YtkjabochhhalhacDoor

