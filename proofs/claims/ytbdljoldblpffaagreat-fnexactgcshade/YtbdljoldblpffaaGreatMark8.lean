/-
  Marks on messages, numbers and things of the call's own.
-/
import Derived.Test.YtbdljoldblpffaaGreatArT
namespace Go.Proofs.YtbdljoldblpffaaGreat
open Go.RowKit
set_option linter.unusedVariables false
set_option maxRecDepth 100000

/-- n messages that are marked from k on. -/
def upMsgs (k : Int) (n : Nat) : List Ms := (List.range n).map fun (i : Nat) => ⟨k + 2 * (i : Int), k + 2 * (i : Int) + 1⟩
theorem upMsgs_length (k : Int) (n : Nat) : (upMsgs k n).length = n := by simp [upMsgs]
theorem upMsgs_at (k : Int) (n i : Nat) (h : i < n) : msAt (upMsgs k n) i = ⟨k + 2 * (i : Int), k + 2 * (i : Int) + 1⟩ := by simp [msAt, upMsgs, List.getD, h]
def markM (ms : List Ms) (k0 : Int) (k : Nat) : List Ms := upMsgs k0 k ++ ms.drop k
theorem markM_start (ms : List Ms) (k0 : Int) : markM ms k0 0 = ms := by simp [markM, upMsgs]
theorem markM_end (ms : List Ms) (k0 : Int) : markM ms k0 ms.length = upMsgs k0 ms.length := by simp [markM]
theorem markM_length (ms : List Ms) (k0 : Int) (k : Nat) (h : k ≤ ms.length) : (markM ms k0 k).length = ms.length := by simp [markM, upMsgs]; omega
theorem markM_set (ms : List Ms) (k0 : Int) (k : Nat) (h : k < ms.length) : (markM ms k0 k).set k ⟨k0 + 2 * (k : Int), k0 + 2 * (k : Int) + 1⟩ = markM ms k0 (k + 1) := by
  unfold markM
  have e : upMsgs k0 (k + 1) = upMsgs k0 k ++ [⟨k0 + 2 * (k : Int), k0 + 2 * (k : Int) + 1⟩] := by simp [upMsgs, List.range_succ]
  rw [List.set_append_right _ _ (by rw [upMsgs_length]; exact Nat.le_refl _), upMsgs_length, Nat.sub_self, e, List.append_assoc, List.drop_eq_getElem_cons h, List.set_cons_zero]
  rfl
set_option maxHeartbeats 1000000 in
theorem markMsgS_row (g cap : Nat) (ms : List Ms) (rest : List Value) (k0 : Int) (w : World) (hr : MsgIn w g ms rest) (hc : ms.length ≤ cap) (hn : ms.length ≤ 1048576) (h0 : 0 ≤ k0) (h1 : k0 ≤ 1099511627776) :
    Calls Tryz.prog 62 #[.slice (some ⟨g, 0, none⟩) ms.length cap, .int .i64 k0] w fun e w' => e = .returned (.int .i64 (k0 + 2 * ms.length)) ∧ MsgIn w' g (upMsgs k0 ms.length) rest ∧ w.grownBy w' (some g) := by
  have HR : Hid (MsgIn w g (markM ms k0 0) rest) := by rw [markM_start]; exact hr
  clear hr
  go_enter Tryz.func62, Tryz.ntmps62
  go_wp2
  go_loopw [1, 5] (fun q i wr => ∃ (k : Nat) (m : Int), k ≤ ms.length ∧ i = .int .i64 k ∧ q = .int .i64 m ∧ Hid (m = k0 + 2 * (k : Int)) ∧ 0 ≤ m ∧ m ≤ 2199023255552 ∧ Hid (MsgIn wr g (markM ms k0 k) rest) ∧ Hid (w.grownBy wr (some g))) (fun _ i _ => ms.length - (intOf i).toNat)
  case atStart => exact ⟨0, _, Nat.zero_le _, rfl, rfl, by show _ = _; simp, by omega, by omega, HR, World.grownBy.refl _ _⟩
  case round =>
    obtain ⟨k, m, hk, rfl, rfl, hm, hm0, hm1, hrow, hgr⟩ := hrel
    clear HR
    by_cases hlt : k < ms.length
    · have hkl : k < (markM ms k0 k).length := by rw [markM_length _ _ _ hk]; exact hlt
      obtain ⟨c0, c1⟩ := hrow.out.cell k hkl
      have f0 := hrow.out.free (k * 2)
      have f1 := hrow.out.free (k * 2 + 1)
      have hrow' : Hid (MsgIn ((wr.setCell ⟨g, k * 2, none⟩ (.int .i64 m)).setCell ⟨g, k * 2 + 1, none⟩ (.int .i64 (m + 1))) g (markM ms k0 (k + 1)) rest) := by
        show MsgIn _ _ _ _
        rw [← markM_set ms k0 k hlt, ← hm.out]
        exact hrow.out.set k hkl ⟨m, m + 1⟩
      have hgr' : Hid (w.grownBy ((wr.setCell ⟨g, k * 2, none⟩ (.int .i64 m)).setCell ⟨g, k * 2 + 1, none⟩ (.int .i64 (m + 1))) (some g)) := grownBy_trans (grownBy_trans hgr.out (grownBy_set wr g _ _)) (grownBy_set _ g _ _)
      have hw1 : wrap64 (m + 1) = m + 1 := by unfold wrap64; omega
      have hw2 : wrap64 (m + 1 + 1) = m + 1 + 1 := by unfold wrap64; omega
      have hnm : Hid (m + 1 + 1 = k0 + 2 * ((k + 1 : Nat) : Int)) := by have := hm.out; show _ = _; omega
      have hnb : m + 1 + 1 ≤ 2199023255552 := by have := hm.out; omega
      clear hrow hgr hm hkl
      go_wp2
      go_roundw
      case rel => exact ⟨k + 1, _, by omega, by go_num, rfl, hnm, by omega, hnb, hrow', hgr'⟩
      case measure => simp [intOf]; omega
    · obtain rfl : k = ms.length := by omega
      have hend : Hid (MsgIn wr g (upMsgs k0 ms.length) rest) := by have := hrow.out; rw [markM_end] at this; exact this
      have hm' : Hid (m = k0 + 2 * (ms.length : Int)) := hm
      clear hrow hm
      go_wp2
      go_ret
      exact ⟨by rw [hm'.out]; rfl, hend.out, hgr.out⟩
set_option maxHeartbeats 1000000 in
theorem heldMsgS_up (v : Value) (n : Nat) (k0 : Int) (w : World) (hx : IsMsgs w v (upMsgs k0 n)) (hn : n ≤ 1048576) (h0 : 0 ≤ k0) (h1 : k0 ≤ 1099511627776) :
    Calls Tryz.prog 64 #[v, .int .i64 k0] w fun e w' => e = .returned (.int .i64 (k0 + 2 * n)) ∧ w = w' := by
  obtain ⟨a, cap, rfl, hcap, _⟩ := id hx
  rw [upMsgs_length] at hcap hx ⊢
  have HX : Hid (∀ i, i < n → ∃ p q, a = some p ∧ p.add (i * 2) = q ∧ Cells2 w q ⟨k0 + 2 * (i : Int), k0 + 2 * (i : Int) + 1⟩) := fun i hi => by
    obtain ⟨p, q, e1, e2, e3⟩ := hx.at (i := i) (by rw [upMsgs_length]; exact hi)
    rw [upMsgs_at _ _ _ hi] at e3
    exact ⟨p, q, e1, e2, e3⟩
  have hne : ∀ x : Int, (x != x) = false := by simp
  clear hx
  go_enter Tryz.func64, Tryz.ntmps64
  go_wp2
  go_loop [1, 5] (fun q i => ∃ (k : Nat) (m : Int), k ≤ n ∧ i = .int .i64 k ∧ q = .int .i64 m ∧ Hid (m = k0 + 2 * (k : Int)) ∧ 0 ≤ m ∧ m ≤ 2199023255552) (fun _ i => n - (intOf i).toNat)
  case atStart => exact ⟨0, _, Nat.zero_le _, rfl, rfl, by show _ = _; simp, by omega, by omega⟩
  case round =>
    obtain ⟨k, m, hk, rfl, rfl, hm, hm0, hm1⟩ := hrel
    by_cases hlt : k < n
    · obtain ⟨p, q, rfl, hq, c0, c1⟩ := HX.out k hlt
      rw [← hm.out] at c0 c1
      have hw1 : wrap64 (m + 1) = m + 1 := by unfold wrap64; omega
      have hw2 : wrap64 (m + 1 + 1) = m + 1 + 1 := by unfold wrap64; omega
      have hnm : Hid (m + 1 + 1 = k0 + 2 * ((k + 1 : Nat) : Int)) := by have := hm.out; show _ = _; omega
      have hnb : m + 1 + 1 ≤ 2199023255552 := by have := hm.out; omega
      clear hm
      go_wp2
      exact ⟨⟨k + 1, _, by omega, by go_num, rfl, hnm, by omega, hnb⟩, by simp [intOf]; omega⟩
    · obtain rfl : k = n := by omega
      have hm' : Hid (m = k0 + 2 * (k : Int)) := hm
      clear hm
      go_wp2
      go_ret
      exact ⟨by rw [hm'.out]; rfl, rfl⟩
/-- Nothing is turned but some blocks. -/
structure Touch (bs : List Nat) (w w' : World) : Prop where
  block : ∀ k x, k ∉ bs → w.heap[k]? = some x → w'.heap[k]? = some x
  below : ∀ B w0, (∀ b, b ∈ bs → B ≤ b) → Below B w0 w → Below B w0 w'
theorem touch_one {w w' : World} {g : Nat} (hg : w.grownBy w' (some g)) (h3 : g < w.heap.size) : Touch [g] w w' :=
  ⟨fun k x hk hx => grown_kept hg hx (fun e => by cases e; simp at hk), fun B w0 hB hb => hb.grown hg (by have := hB g (by simp); omega) (fun k e => by cases e; exact hB g (by simp))⟩
theorem touch_none (w : World) : Touch [] w w := ⟨fun _ _ _ h => h, fun _ _ _ h => h⟩
theorem upFrom_nil (k : Int) : upFrom k 0 = [] := rfl
theorem markIntS_nil (a : Option Addr) (cap : Nat) (k0 : Int) (w : World) :
    Calls Tryz.prog 61 #[.slice a 0 cap, .int .i64 k0] w fun e w' => e = .returned (.int .i64 k0) ∧ w = w' := by
  go_enter Tryz.func61, Tryz.ntmps61
  go_wp2
  go_loop [1, 5] (fun q i => i = .int .i64 0 ∧ q = .int .i64 k0) (fun _ i => 0)
  case atStart => exact ⟨rfl, rfl⟩
  case round =>
    obtain ⟨rfl, rfl⟩ := hrel
    go_wp2
    go_ret
    exact ⟨rfl, rfl⟩
theorem markMsgS_nil (a : Option Addr) (cap : Nat) (k0 : Int) (w : World) :
    Calls Tryz.prog 62 #[.slice a 0 cap, .int .i64 k0] w fun e w' => e = .returned (.int .i64 k0) ∧ w = w' := by
  go_enter Tryz.func62, Tryz.ntmps62
  go_wp2
  go_loop [1, 5] (fun q i => i = .int .i64 0 ∧ q = .int .i64 k0) (fun _ i => 0)
  case atStart => exact ⟨rfl, rfl⟩
  case round =>
    obtain ⟨rfl, rfl⟩ := hrel
    go_wp2
    go_ret
    exact ⟨rfl, rfl⟩
theorem markI_own (lo hi : Nat) (v : Value) (xs : List Int) (k0 : Int) (w : World) (h : OwnI lo hi w v xs) (hn : xs.length ≤ 1048576) (h0 : 0 ≤ k0) (h1 : k0 ≤ 1099511627776) :
    Calls Tryz.prog 61 #[v, .int .i64 k0] w fun e w' => e = .returned (.int .i64 (k0 + xs.length)) ∧ OwnI lo hi w' v (upFrom k0 xs.length) ∧ Touch (blk v) w w' := by
  obtain ⟨a, cap, rfl, hc, hx⟩ := h
  by_cases hz : xs.length = 0
  · rw [hz]
    refine (markIntS_nil a cap k0 w).mono ?_
    rintro e w' ⟨rfl, rfl⟩
    obtain rfl : xs = [] := List.length_eq_zero_iff.1 hz
    exact ⟨by simp, ⟨a, cap, rfl, hc, hx⟩, fun _ _ _ h => h, fun _ _ _ h => h⟩
  · obtain ⟨g, rs, rfl, hl, hh, hr, hzz⟩ := hx (by omega)
    refine (markIntS_row g cap xs rs k0 w hr hc hn h0 h1).mono ?_
    rintro e w' ⟨rfl, hr', hg⟩
    refine ⟨rfl, ⟨_, cap, by rw [upFrom_length], by rw [upFrom_length]; exact hc, fun _ => ⟨g, rs, rfl, hl, hh, hr', by rw [upFrom_length]; exact hzz⟩⟩, ?_⟩
    rw [blk_one _ (by omega)]
    exact touch_one hg (lt_of_block hr)
theorem markM_own (lo hi : Nat) (v : Value) (ms : List Ms) (k0 : Int) (w : World) (h : OwnM lo hi w v ms) (hn : ms.length ≤ 1048576) (h0 : 0 ≤ k0) (h1 : k0 ≤ 1099511627776) :
    Calls Tryz.prog 62 #[v, .int .i64 k0] w fun e w' => e = .returned (.int .i64 (k0 + 2 * ms.length)) ∧ OwnM lo hi w' v (upMsgs k0 ms.length) ∧ Touch (blk v) w w' := by
  obtain ⟨a, cap, rfl, hc, hx⟩ := h
  by_cases hz : ms.length = 0
  · rw [hz]
    refine (markMsgS_nil a cap k0 w).mono ?_
    rintro e w' ⟨rfl, rfl⟩
    obtain rfl : ms = [] := List.length_eq_zero_iff.1 hz
    exact ⟨by simp, ⟨a, cap, rfl, hc, hx⟩, fun _ _ _ h => h, fun _ _ _ h => h⟩
  · obtain ⟨g, rs, rfl, hl, hh, hr, hzz⟩ := hx (by omega)
    refine (markMsgS_row g cap ms rs k0 w hr hc hn h0 h1).mono ?_
    rintro e w' ⟨rfl, hr', hg⟩
    refine ⟨rfl, ⟨_, cap, by rw [upMsgs_length], by rw [upMsgs_length]; exact hc, fun _ => ⟨g, rs, rfl, hl, hh, hr', by rw [upMsgs_length]; exact hzz⟩⟩, ?_⟩
    rw [blk_one _ (by omega)]
    exact touch_one hg (lt_of_block hr)
end Go.Proofs.YtbdljoldblpffaaGreat
