/-
  Unhex answers as its model at every text of at most 1048576 bytes, which is all that the law asks. No condition.
-/
import Derived.Test.YtkjabochhhalhaiPut
import Derived.Test.YtkjabochhhalhaiMathHex
import Derived.Deep.QuietTactic
import Derived.BigQuiet
import Derived.ProofKit
import Derived.OpenShut
import Derived.ShutString
namespace Go.Proofs.Ytkjabochhhalhai
open Go.ChangeShapes Go.WideShapes Go.ChangeAt Go.RowKit
open Go.ChangeMaps (open_string shut_string)
set_option linter.unusedVariables false

set_option maxHeartbeats 400000 in
theorem l1Digit_any (k : Nat) (w : World) (hk : k < 16) :
    Calls Try.prog 19 #[.int .i64 k] w fun e w' => e = .returned (.int .u8 ((hexd k).toNat : Nat)) ∧ w = w' := by
  go_enter Try.func19, Try.ntmps19
  go_wp2
  go_ret
  refine ⟨?_, rfl⟩
  show Ending.returned (Value.int _ _) = _
  rw [hexlit k hk _ rfl]

set_option maxHeartbeats 400000 in
theorem l1FromHex_any (B : Nat) (w : World) (hB : B < 256) :
    Calls Try.prog 12 #[.int .u8 B] w fun e w' => e = .returned (.int .i64 (hexv B)) ∧ w = w' := by
  go_enter Try.func12, Try.ntmps12
  go_wp2
  go_loop [3] (fun i => ∃ k : Nat, k ≤ 16 ∧ i = .int .i64 k ∧ Hid (∀ j, j < k → (hexd j).toNat ≠ B)) (fun i => 16 - (intOf i).toNat)
  case atStart => exact ⟨0, by omega, rfl, fun j hj => by omega⟩
  case round =>
    obtain ⟨k, hk, rfl, hno⟩ := hrel
    by_cases hlt : k < 16
    · obtain ⟨D, hD⟩ : ∃ D : Nat, D = (hexd k).toNat := ⟨_, rfl⟩
      have hC := fun w => l1Digit_any k w hlt
      rw [← hD] at hC
      have HC : Hid (∀ w, _) := hC
      have HD : Hid (D = (hexd k).toNat) := hD
      clear hC hD
      by_cases he : D = B
      · have hq : ((D : Int) == (B : Int)) = true := by simp [he]
        have HV : Hid (hexv B = (k : Int)) := by show _ = _; rw [← he, HD.out]; exact hexv_hexd k hlt
        clear he
        go_wp2_with (go_at_call 19; refine (HC.out _).mono ?_; rintro e w' ⟨rfl, rfl⟩)
        go_ret
        rw [HV.out]
        exact ⟨rfl, rfl⟩
      · have hq : ((D : Int) == (B : Int)) = false := by simp; omega
        have HE : Hid (D ≠ B) := he
        clear he
        go_wp2_with (go_at_call 19; refine (HC.out _).mono ?_; rintro e w' ⟨rfl, rfl⟩)
        refine ⟨⟨k + 1, by omega, by go_num, ?_⟩, by simp [intOf]; omega⟩
        intro j hj
        by_cases e : j = k
        · rw [e, ← HD.out]; exact HE.out
        · exact hno.out j (by omega)
    · have HV : Hid (hexv B = -1) := hexv_none B fun j hj => hno.out j (by omega)
      go_wp2
      go_ret
      rw [HV.out]
      exact ⟨rfl, rfl⟩

set_option maxHeartbeats 400000 in
theorem hexValue_any (B : Nat) (w : World) (hB : B < 256) :
    Calls Try.prog 13 #[.int .u8 B] w fun e w' => e = .returned (.int .i64 (hexv B)) ∧ w' = w := by
  by_cases h1 : 48 ≤ B ∧ B ≤ 57
  · have HV : Hid (hexv B = (B : Int) - 48) := if_pos h1
    have h2 := h1.1
    have h3 := h1.2
    clear h1
    go_enter Try.func13, Try.ntmps13
    go_wp2
    go_ret
    refine ⟨?_, rfl⟩
    rw [HV.out]
    first | rfl | (show Ending.returned (Value.int _ _) = _; congr 2; omega)
  · by_cases h4 : 97 ≤ B ∧ B ≤ 102
    · have HV : Hid (hexv B = (B : Int) - 87) := by show _ = _; unfold hexv; rw [if_neg h1, if_pos h4]
      have h2 := h4.1
      have h3 := h4.2
      clear h1 h4
      go_enter Try.func13, Try.ntmps13
      go_wp2
      go_ret
      refine ⟨?_, rfl⟩
      rw [HV.out]
      first | rfl | (show Ending.returned (Value.int _ _) = _; congr 2; omega)
    · have HV : Hid (hexv B = -1) := by show _ = _; unfold hexv; rw [if_neg h1, if_neg h4]
      rcases (show B < 48 ∨ (57 < B ∧ B < 97) ∨ 102 < B by omega) with h | ⟨h, h'⟩ | h
      all_goals
        clear h1 h4
        go_enter Try.func13, Try.ntmps13
        go_wp2
        go_ret
        refine ⟨?_, rfl⟩
        rw [HV.out]
        rfl

set_option maxRecDepth 100000 in
set_option maxHeartbeats 1000000 in
theorem specUnhex_even (s : ByteArray) (w : World) (hs : s.size ≤ 1048576) (h2 : s.size % 2 = 0) :
    Calls Try.prog 5 #[.string s] w fun e w' => e = .returned (.tuple #[.string ⟨(unhexL s.data.toList).toArray⟩, .bool (unhexB s.data.toList)]) ∧ Below w.heap.size w w' := by
  have hq : (((s.size : Nat) : Int) % 2 == 1) = false := by simp; omega
  go_enter Try.func5, Try.ntmps5
  go_wp2
  go_loopw [4, 5, 6, 7] (fun v i _ _ wr => ∃ (acc : List UInt8) (J : Nat), J ≤ s.size ∧ J % 2 = 0 ∧ acc.length ≤ 1048576 ∧ Hid (2 * acc.length = J) ∧ i = .int .i64 J ∧ Hid (unhex (s.data.toList.take J) = some acc) ∧ Hid (wr.ownsRow w.heap.size 5 1 v acc.length (bcells acc)) ∧ Below w.heap.size w wr) (fun _ i _ _ _ => s.size - (intOf i).toNat)
  case atStart => exact ⟨[], 0, by omega, rfl, by simp, rfl, rfl, rfl, World.ownsRow_made w #[] 0 (Nat.le_refl _) (by simp [maxLen]) rfl, (Below.refl _ _).alloc (Nat.le_refl _) _⟩
  case round =>
    obtain ⟨acc, J, hJ, hJ2, hal, hal2, rfl, hacc, hown, hnx⟩ := hrel
    have hsz := hnx.size
    by_cases hlt : J < s.size
    · have hJ1 : J + 1 < s.size := by omega
      obtain ⟨A, hA⟩ : ∃ A : Nat, A = s[J].toNat := ⟨_, rfl⟩
      obtain ⟨B, hB⟩ : ∃ B : Nat, B = s[J + 1].toNat := ⟨_, rfl⟩
      have hA2 : A < 256 := by rw [hA]; exact s[J].toNat_lt
      have hB2 : B < 256 := by rw [hB]; exact s[J + 1].toNat_lt
      have HA : Hid (A = s[J].toNat) := hA
      have HB : Hid (B = s[J + 1].toNat) := hB
      have hA0 : ((s[J].toNat : Nat) : Int) = (A : Int) := by rw [hA]
      have hB0 : ((s[J + 1].toNat : Nat) : Int) = (B : Int) := by rw [hB]
      clear hA hB
      obtain ⟨x, hx⟩ : ∃ x : Int, x = hexv A := ⟨_, rfl⟩
      obtain ⟨y, hy⟩ : ∃ y : Int, y = hexv B := ⟨_, rfl⟩
      have hx1 : -1 ≤ x := by rw [hx]; exact (hexv_lt A).1
      have hx2 : x < 16 := by rw [hx]; exact (hexv_lt A).2
      have hy1 : -1 ≤ y := by rw [hy]; exact (hexv_lt B).1
      have hy2 : y < 16 := by rw [hy]; exact (hexv_lt B).2
      have c1 := fun w => l1FromHex_any A w hA2
      have c2 := fun w => l1FromHex_any B w hB2
      rw [← hx] at c1
      rw [← hy] at c2
      have C1 : Hid (∀ w, _) := c1
      have C2 : Hid (∀ w, _) := c2
      have HX : Hid (x = hexv s[J].toNat) := by show _ = _; rw [hx, HA.out]
      have HY : Hid (y = hexv s[J + 1].toNat) := by show _ = _; rw [hy, HB.out]
      clear c1 c2 hx hy HA HB
      by_cases hbad : x < 0 ∨ y < 0
      · have HN : Hid (unhexL s.data.toList = [] ∧ unhexB s.data.toList = false) := unhex_none (unhex_bad s J hJ1 acc hacc.out (by rw [← HX.out, ← HY.out]; exact hbad))
        by_cases hxn : x < 0
        · go_wp2_with fail
          refine (C1.out _).mono ?_
          rintro e w' ⟨rfl, rfl⟩
          go_wp2_with fail
          refine (C2.out _).mono ?_
          rintro e w' ⟨rfl, rfl⟩
          go_wp2
          go_ret2
          rw [HN.out.1, HN.out.2]
          exact ⟨rfl, hnx⟩
        · have hyn : y < 0 := by omega
          go_wp2_with fail
          refine (C1.out _).mono ?_
          rintro e w' ⟨rfl, rfl⟩
          go_wp2_with fail
          refine (C2.out _).mono ?_
          rintro e w' ⟨rfl, rfl⟩
          go_wp2
          go_ret2
          rw [HN.out.1, HN.out.2]
          exact ⟨rfl, hnx⟩
      · obtain ⟨X, rfl⟩ := Int.eq_ofNat_of_zero_le (show 0 ≤ x by omega)
        obtain ⟨Y, rfl⟩ := Int.eq_ofNat_of_zero_le (show 0 ≤ y by omega)
        have HM : Hid (unhex (s.data.toList.take (J + 2)) = some (acc ++ [UInt8.ofNat (16 * X + Y)])) := by
          have := unhex_more s J hJ1 acc hacc.out (by rw [← HX.out, ← HY.out]; exact hbad)
          rw [← HX.out, ← HY.out] at this
          exact this
        obtain ⟨b, hb⟩ : ∃ b, b = UInt8.ofNat (16 * X + Y) := ⟨_, rfl⟩
        rw [← hb] at HM
        have Hv : Hid (#[Value.int IntKind.u8 (16 * (X : Int) + (Y : Int))] = (bcells [b]).toArray) := by
          have hXY : 16 * X + Y < 256 := by omega
          rw [Hid, hb]; simp [bcells]; omega
        clear hb HX HY hbad
        go_wp2_with fail
        refine (C1.out _).mono ?_
        rintro e w' ⟨rfl, rfl⟩
        go_wp2_with fail
        refine (C2.out _).mono ?_
        rintro e w' ⟨rfl, rfl⟩
        clear C1 C2
        go_wp2_with (at_builtin; refine wpList_app rfl (.tmp 34) (.tmp 40) rfl w wr w.heap.size _ acc [b] _ 1 rfl rfl hown.out Hv.out rfl (by omega) hsz hnx ?_)
        intro v' w1 hown' hnx'
        clear hown hnx
        go_wp2
        refine ⟨⟨acc ++ [b], J + 2, by omega, by omega, ?_, ?_, by go_num, HM.out, ?_, hnx'⟩, by simp [intOf]; omega⟩
        · have := hal2.out; simp; omega
        · have := hal2.out; show _ = _; simp; omega
        · have h := hown'.out; simpa [Hid] using h
    · obtain rfl : J = s.size := by omega
      have hconv := conv_own wr _ _ _ _ hown.out
      have H : Hid (unhexL s.data.toList = acc ∧ unhexB s.data.toList = true) := unhex_some (by have := hacc.out; rwa [List.take_of_length_le (by simp)] at this)
      clear hown hacc
      go_wp2
      go_ret2
      rw [H.out.1, H.out.2]
      exact ⟨rfl, hnx⟩

set_option maxHeartbeats 400000 in
theorem specUnhex_odd (s : ByteArray) (w : World) (hs : s.size ≤ 1048576) (h2 : s.size % 2 = 1) :
    Calls Try.prog 5 #[.string s] w fun e w' => e = .returned (.tuple #[.string ⟨(unhexL s.data.toList).toArray⟩, .bool (unhexB s.data.toList)]) ∧ Below w.heap.size w w' := by
  have hq : (((s.size : Nat) : Int) % 2 == 1) = true := by simp; omega
  have HN : Hid (unhexL s.data.toList = [] ∧ unhexB s.data.toList = false) := unhex_none (unhex_odd _ (by simpa using h2))
  go_enter Try.func5, Try.ntmps5
  go_wp2
  go_ret2
  rw [HN.out.1, HN.out.2]
  exact ⟨rfl, (Below.refl _ _).alloc (Nat.le_refl _) _⟩

set_option maxHeartbeats 400000 in
theorem implUnhex_odd (s : ByteArray) (w : World) (hs : s.size ≤ 1048576) (h2 : s.size % 2 = 1) :
    Calls Try.prog 6 #[.string s] w fun e w' => e = .returned (.tuple #[.string ⟨(unhexL s.data.toList).toArray⟩, .bool (unhexB s.data.toList)]) ∧ Below w.heap.size w w' := by
  have hq : (((s.size : Nat) : Int) % 2 != 0) = true := by simp; omega
  have HN : Hid (unhexL s.data.toList = [] ∧ unhexB s.data.toList = false) := unhex_none (unhex_odd _ (by simpa using h2))
  go_enter Try.func6, Try.ntmps6
  go_wp2
  go_ret2
  rw [HN.out.1, HN.out.2]
  exact ⟨rfl, Below.refl _ _⟩

/-- 'put_row' behind so many draws. -/
theorem put_row_drewN (wr : World) (q g n : Nat) (acc new : List UInt8) (f : Nat) (vs : Array Value) (hvs : vs = (bcells new).toArray) (k : Nat) (hk : new.length = k) (hg : wr.heap[g]? = some (.cells (rowOf acc (f + k)).toArray 5 (0, 0)))
    (hn : acc.length + (f + k) = n) (hk0 : 0 < k) (hb : n ≤ 140737488355328) :
    Calls Try.prog 14 #[.slice (some ⟨g, 0, none⟩) n n, .int .i64 acc.length, .slice (some ⟨wr.heap.size, 0, none⟩) k k] ((wr.drewN q).alloc (.cells vs 5)) fun e w' =>
      e = .returned (.int .i64 (acc.length + k : Nat)) ∧ w'.heap[g]? = some (.cells (rowOf (acc ++ new) f).toArray 5 (0, 0)) ∧ Below g wr w' := by
  refine (put_row (wr.drewN q) g n acc new f vs hvs k hk hg hn hk0 hb).mono ?_
  rintro e w' ⟨h1, h2, h3⟩
  exact ⟨h1, h2, (below_drewN (Below.refl g wr) q).trans h3⟩

theorem orHex (X Y : Nat) (hX : X < 16) (hY : Y < 16) : bits BinOp.or IntKind.i64 ((X : Int) * 16) (Y : Int) = ((16 * X + Y : Nat) : Int) := by
  rw [bits_join .i64 63 (by decide) wraps_i64 4 _ _ (by omega) (by omega) (by omega) (by omega) (by omega) (by omega)]
  omega

set_option maxRecDepth 100000 in
set_option maxHeartbeats 1000000 in
theorem implUnhex_even (s : ByteArray) (w : World) (hs : s.size ≤ 1048576) (h2 : s.size % 2 = 0) :
    Calls Try.prog 6 #[.string s] w fun e w' => e = .returned (.tuple #[.string ⟨(unhexL s.data.toList).toArray⟩, .bool (unhexB s.data.toList)]) ∧ Below w.heap.size w w' := by
  have hq : (((s.size : Nat) : Int) % 2 != 0) = false := by simp; omega
  have hmk := make_bytes (s.size / 2) (by omega)
  rw [show ((s.size / 2 : Nat) : Int) = (s.size : Int) / 2 by omega] at hmk
  go_enter Try.func6, Try.ntmps6
  go_wp2
  clear hmk
  go_loopw [5, 6, 7, 8] (fun a i _ _ wr => ∃ (acc : List UInt8) (J : Nat), J ≤ s.size ∧ J % 2 = 0 ∧ acc.length ≤ 1048576 ∧ Hid (2 * acc.length = J) ∧ a = .int .i64 acc.length ∧ i = .int .i64 J ∧ Hid (unhex (s.data.toList.take J) = some acc) ∧ wr.heap[w.heap.size]? = some (.cells (rowOf acc (s.size / 2 - acc.length)).toArray 5 (0, 0)) ∧ Below w.heap.size w wr) (fun _ i _ _ _ => s.size - (intOf i).toNat)
  case atStart => exact ⟨[], 0, by omega, rfl, by simp, rfl, rfl, rfl, rfl, heap_alloc_new w _, (Below.refl _ _).alloc (Nat.le_refl _) _⟩
  case round =>
    obtain ⟨acc, J, hJ, hJ2, hal, hal2, rfl, rfl, hacc, hrow, hnx⟩ := hrel
    have hsz := hnx.size
    by_cases hlt : J < s.size
    · have hJ1 : J + 1 < s.size := by omega
      obtain ⟨A, hA⟩ : ∃ A : Nat, A = s[J].toNat := ⟨_, rfl⟩
      obtain ⟨B, hB⟩ : ∃ B : Nat, B = s[J + 1].toNat := ⟨_, rfl⟩
      have hA2 : A < 256 := by rw [hA]; exact s[J].toNat_lt
      have hB2 : B < 256 := by rw [hB]; exact s[J + 1].toNat_lt
      have HA : Hid (A = s[J].toNat) := hA
      have HB : Hid (B = s[J + 1].toNat) := hB
      have hA0 : ((s[J].toNat : Nat) : Int) = (A : Int) := by rw [hA]
      have hB0 : ((s[J + 1].toNat : Nat) : Int) = (B : Int) := by rw [hB]
      clear hA hB
      obtain ⟨x, hx⟩ : ∃ x : Int, x = hexv A := ⟨_, rfl⟩
      obtain ⟨y, hy⟩ : ∃ y : Int, y = hexv B := ⟨_, rfl⟩
      have hx1 : -1 ≤ x := by rw [hx]; exact (hexv_lt A).1
      have hx2 : x < 16 := by rw [hx]; exact (hexv_lt A).2
      have hy1 : -1 ≤ y := by rw [hy]; exact (hexv_lt B).1
      have hy2 : y < 16 := by rw [hy]; exact (hexv_lt B).2
      have c1 := fun w => hexValue_any A w hA2
      have c2 := fun w => hexValue_any B w hB2
      rw [← hx] at c1
      rw [← hy] at c2
      have C1 : Hid (∀ w, _) := c1
      have C2 : Hid (∀ w, _) := c2
      have HX : Hid (x = hexv s[J].toNat) := by show _ = _; rw [hx, HA.out]
      have HY : Hid (y = hexv s[J + 1].toNat) := by show _ = _; rw [hy, HB.out]
      clear c1 c2 hx hy HA HB
      by_cases hbad : x < 0 ∨ y < 0
      · have HN : Hid (unhexL s.data.toList = [] ∧ unhexB s.data.toList = false) := unhex_none (unhex_bad s J hJ1 acc hacc.out (by rw [← HX.out, ← HY.out]; exact hbad))
        clear hrow
        go_wp2
        go_quiet ((first | (go_at_call_of 13 (A : Int); exact Calls.quiet_of_same (C1.out _)) | (go_at_call_of 13 (B : Int); exact Calls.quiet_of_same (C2.out _))))
        by_cases hxn : x < 0
        · go_wp2
          go_ret2
          rw [HN.out.1, HN.out.2]
          exact ⟨rfl, below_drewN hnx _⟩
        · have hyn : y < 0 := by omega
          go_wp2
          go_ret2
          rw [HN.out.1, HN.out.2]
          exact ⟨rfl, below_drewN hnx _⟩
      · obtain ⟨X, rfl⟩ := Int.eq_ofNat_of_zero_le (show 0 ≤ x by omega)
        obtain ⟨Y, rfl⟩ := Int.eq_ofNat_of_zero_le (show 0 ≤ y by omega)
        have HM : Hid (unhex (s.data.toList.take (J + 2)) = some (acc ++ [UInt8.ofNat (16 * X + Y)])) := by
          have := unhex_more s J hJ1 acc hacc.out (by rw [← HX.out, ← HY.out]; exact hbad)
          rw [← HX.out, ← HY.out] at this
          exact this
        obtain ⟨b, hb⟩ : ∃ b, b = UInt8.ofNat (16 * X + Y) := ⟨_, rfl⟩
        rw [← hb] at HM
        have hXY : 16 * X + Y < 256 := by omega
        have hor := orHex X Y (by omega) (by omega)
        have Hv : Hid (#[Value.int IntKind.u8 (16 * (X : Int) + (Y : Int))] = (bcells [b]).toArray) := by
          rw [Hid, hb]; simp [bcells]; omega
        have hrow' : wr.heap[w.heap.size]? = some (.cells (rowOf acc (s.size / 2 - (acc.length + 1) + 1)).toArray 5 (0, 0)) := by
          have := hal2.out
          rw [show s.size / 2 - (acc.length + 1) + 1 = s.size / 2 - acc.length by omega]; exact hrow
        have Hn : Hid (acc.length + (s.size / 2 - (acc.length + 1) + 1) = s.size / 2) := by have := hal2.out; show _ = _; omega
        clear hb HX HY hbad hrow
        go_wp2
        go_quiet ((first | (go_at_call_of 13 (A : Int); exact Calls.quiet_of_same (C1.out _)) | (go_at_call_of 13 (B : Int); exact Calls.quiet_of_same (C2.out _))))
        go_wp2_with fail
        refine (put_row_drewN wr nq w.heap.size (s.size / 2) acc [b] (s.size / 2 - (acc.length + 1)) _ Hv.out 1 rfl hrow' Hn.out (by omega) (by omega)).mono ?_
        rintro e w2 ⟨rfl, hrow2, hb2⟩
        clear C1 C2 hrow' hor
        go_wp2
        refine ⟨⟨acc ++ [b], J + 2, by omega, by omega, ?_, ?_, by simp, by go_num, HM.out, ?_, hnx.trans hb2⟩, by simp [intOf]; omega⟩
        · have := hal2.out; simp; omega
        · have := hal2.out; show _ = _; simp; omega
        · simpa using hrow2
    · obtain rfl : J = s.size := by omega
      have hal3 : acc.length = s.size / 2 := by have := hal2.out; omega
      have hconv := conv_row wr w.heap.size acc _ (s.size / 2) hrow
      rw [hal3] at hconv
      have H : Hid (unhexL s.data.toList = acc ∧ unhexB s.data.toList = true) := unhex_some (by have := hacc.out; rwa [List.take_of_length_le (by simp)] at this)
      clear hrow hacc hal3
      go_wp2
      go_ret2
      rw [H.out.1, H.out.2]
      exact ⟨rfl, hnx⟩

theorem specUnhex_any (s : ByteArray) (w : World) (hs : s.size ≤ 1048576) :
    Calls Try.prog 5 #[.string s] w fun e w' => e = .returned (.tuple #[.string ⟨(unhexL s.data.toList).toArray⟩, .bool (unhexB s.data.toList)]) ∧ Below w.heap.size w w' := by
  by_cases h : s.size % 2 = 0
  · exact specUnhex_even s w hs h
  · exact specUnhex_odd s w hs (by omega)
theorem implUnhex_any (s : ByteArray) (w : World) (hs : s.size ≤ 1048576) :
    Calls Try.prog 6 #[.string s] w fun e w' => e = .returned (.tuple #[.string ⟨(unhexL s.data.toList).toArray⟩, .bool (unhexB s.data.toList)]) ∧ Below w.heap.size w w' := by
  by_cases h : s.size % 2 = 0
  · exact implUnhex_even s w hs h
  · exact implUnhex_odd s w hs (by omega)

set_option maxHeartbeats 400000 in
theorem walkUnhex (a0 : ByteArray) (w0 : a0.size ≤ maxLen) (w : World) :
    Calls Try.prog 3 #[.string a0] w fun e w' => e = .returned (.bool true) ∧ Below w.heap.size w w' := by
  unfold maxLen at w0
  by_cases hbig : 1048576 < a0.size
  · go_enter Try.func3, Try.ntmps3
    go_wp2_with fail
    go_ret
    exact ⟨rfl, Below.refl _ _⟩
  · have hs : a0.size ≤ 1048576 := by omega
    obtain ⟨s, hs'⟩ : ∃ s : ByteArray, s = ⟨(unhexL a0.data.toList).toArray⟩ := ⟨_, rfl⟩
    obtain ⟨b, hb⟩ : ∃ b : Bool, b = unhexB a0.data.toList := ⟨_, rfl⟩
    have c1 := fun w => specUnhex_any a0 w hs
    have c2 := fun w => implUnhex_any a0 w hs
    rw [← hs', ← hb] at c1 c2
    have C1 := c1 w
    have C2 : Hid (∀ w, _) := c2
    clear hs' hb c1 c2
    go_enter Try.func3, Try.ntmps3
    go_wp2_with fail
    refine C1.mono ?_
    rintro e w1 ⟨rfl, hb1⟩
    clear C1
    go_wp2_with fail
    refine (C2.out w1).mono ?_
    rintro e w2 ⟨rfl, hb2⟩
    clear C2
    go_wp2
    go_ret
    exact ⟨rfl, hb1.trans (hb2.mono hb1.size)⟩

namespace Unhex
theorem own : ownKnob Try.prog.godebug = none := by kernel_rfl

set_option maxRecDepth 100000 in
theorem lifted (os : Os) (started : os.Started) (H : Type) (enc : TypeId × Value → H) :
    ReturnsInHanded {} Try.checked os 3 .any (Rows.fnExactUnhexSpec.pre6 enc Try.prog Try.f3 Rows.fnExactUnhexRow.domain false) (Rows.fnExactUnhexSpec.post enc Try.prog Try.f3 false true false false) := by
  refine returnsInHanded_of_change (C := Try.checked) own started (by kernel_rfl) Try.func3
    (ChangeSpec.witness6 (enc := enc) (C := Try.checked) false ⟨#[], #[.string ByteArray.empty], []⟩ 8 (by kernel_rfl) (by kernel_rfl) (by kernel_rfl) (by kernel_rfl)) ?_
  intro W base args ds gs before hval0 hW hcnd _
  have hval : ∀ (j : Nat) t v, Try.f3.params[j]? = some t → args[j]? = some v → Value.okWide Try.prog W .any base t v := hval0
  have hW' := hW
  obtain ⟨p, q, hA0, hV, rfl, hfz, hnd⟩ := hW
  have hA : DataW.TrodAll enc Try.prog W 0 (fun _ => true) true Try.f3.params.toList args.toList ds p := hA0
  rw [Try.params3] at hA hval
  obtain ⟨v0, vs0, d0, ds0, p0, q0, hargs, rfl, rfl, h0, r0⟩ := trodAll_cons hA
  obtain ⟨rfl, rfl, rfl⟩ := trodAll_nil r0
  obtain rfl : args = #[v0] := by cases args; simp_all
  obtain ⟨rfl, rfl⟩ := trodVars_none hV
  obtain ⟨a0, rfl, rfl, rfl, w0⟩ := open_string Try.underlying9 (hval 0 9 v0 rfl rfl) h0
  clear hA0 hval0
  simp only [List.append_nil] at hW'
  refine (walkUnhex a0 w0 W).mono fun e W' ⟨he, bel⟩ => ?_
  subst he
  exact ⟨_, rfl, _, _, _, [], _, [], hW', (trodAll_cons_mk (shut_bool Try.underlying4 _) trodAll_mk0), (trodAll_cons_mk (shut_string Try.underlying9 w0) trodAll_mk0), rfl, bel.frame _, fun h => by cases h⟩

theorem over : Rows.fnExactUnhexRow.holds Try.pinned (OpenSpec.ofChange Rows.fnExactUnhexSpec) :=
  OpenClaim.holds_of_wide 3 Try.f3 rfl rfl rfl rfl rfl rfl rfl ⟨rfl, rfl, rfl, rfl, rfl⟩ rfl rfl rfl rfl rfl (by kernel_rfl) Try.func3 (by kernel_rfl)
    (of_decide_eq_true (by kernel_rfl)) (by unfold Func.isWrapper; first | (rw [if_pos (by decide +kernel)]; kernel_rfl) | (rw [if_neg (by decide +kernel)]; exact ⟨rfl, rfl⟩))
    (fun os started H enc _ => lifted os started H enc)


end Unhex
theorem unhex_holds : Rows.FnExactUnhexSaid := Unhex.over
#print axioms unhex_holds
end Go.Proofs.Ytkjabochhhalhai
