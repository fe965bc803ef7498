/-
  Marks on messages, numbers and things of the call's own. Marks on an arena of the call's own. Marks on an arena, held.
-/
import Derived.Test.YtbdljoldblpffaaGreatArT
namespace Go.Proofs.YtbdljoldblpffaaGreat
open Go.RowKit
set_option linter.unusedVariables false
set_option maxRecDepth 100000

/-- n messages that are marked from k on. -/
def upMsgs (k : Int) (n : Nat) : List Ms := (List.range n).map fun (i : Nat) => ⟨k + 2 * (i : Int), k + 2 * (i : Int) + 1⟩
theorem upMsgs_length (k : Int) (n : Nat) : (upMsgs k n).length = n := by simp [upMsgs]
theorem upMsgs_at (k : Int) (n i : Nat) (h : i < n) : msAt (upMsgs k n) i = ⟨k + 2 * (i : Int), k + 2 * (i : Int) + 1⟩ := by simp [msAt, upMsgs, List.getD, h]
def markM (ms : List Ms) (k0 : Int) (k : Nat) : List Ms := upMsgs k0 k ++ ms.drop k
theorem markM_start (ms : List Ms) (k0 : Int) : markM ms k0 0 = ms := by simp [markM, upMsgs]
theorem markM_end (ms : List Ms) (k0 : Int) : markM ms k0 ms.length = upMsgs k0 ms.length := by simp [markM]
theorem markM_length (ms : List Ms) (k0 : Int) (k : Nat) (h : k ≤ ms.length) : (markM ms k0 k).length = ms.length := by simp [markM, upMsgs]; omega
theorem markM_set (ms : List Ms) (k0 : Int) (k : Nat) (h : k < ms.length) : (markM ms k0 k).set k ⟨k0 + 2 * (k : Int), k0 + 2 * (k : Int) + 1⟩ = markM ms k0 (k + 1) := by
  unfold markM
  have e : upMsgs k0 (k + 1) = upMsgs k0 k ++ [⟨k0 + 2 * (k : Int), k0 + 2 * (k : Int) + 1⟩] := by simp [upMsgs, List.range_succ]
  rw [List.set_append_right _ _ (by rw [upMsgs_length]; exact Nat.le_refl _), upMsgs_length, Nat.sub_self, e, List.append_assoc, List.drop_eq_getElem_cons h, List.set_cons_zero]
  rfl
set_option maxHeartbeats 1000000 in
theorem markMsgS_row (g cap : Nat) (ms : List Ms) (rest : List Value) (k0 : Int) (w : World) (hr : MsgIn w g ms rest) (hc : ms.length ≤ cap) (hn : ms.length ≤ 1048576) (h0 : 0 ≤ k0) (h1 : k0 ≤ 1099511627776) :
    Calls Tryz.prog 62 #[.slice (some ⟨g, 0, none⟩) ms.length cap, .int .i64 k0] w fun e w' => e = .returned (.int .i64 (k0 + 2 * ms.length)) ∧ MsgIn w' g (upMsgs k0 ms.length) rest ∧ w.grownBy w' (some g) := by
  have HR : Hid (MsgIn w g (markM ms k0 0) rest) := by rw [markM_start]; exact hr
  clear hr
  go_enter Tryz.func62, Tryz.ntmps62
  go_wp2
  go_loopw [1, 5] (fun q i wr => ∃ (k : Nat) (m : Int), k ≤ ms.length ∧ i = .int .i64 k ∧ q = .int .i64 m ∧ Hid (m = k0 + 2 * (k : Int)) ∧ 0 ≤ m ∧ m ≤ 2199023255552 ∧ Hid (MsgIn wr g (markM ms k0 k) rest) ∧ Hid (w.grownBy wr (some g))) (fun _ i _ => ms.length - (intOf i).toNat)
  case atStart => exact ⟨0, _, Nat.zero_le _, rfl, rfl, by show _ = _; simp, by omega, by omega, HR, World.grownBy.refl _ _⟩
  case round =>
    obtain ⟨k, m, hk, rfl, rfl, hm, hm0, hm1, hrow, hgr⟩ := hrel
    clear HR
    by_cases hlt : k < ms.length
    · have hkl : k < (markM ms k0 k).length := by rw [markM_length _ _ _ hk]; exact hlt
      obtain ⟨c0, c1⟩ := hrow.out.cell k hkl
      have f0 := hrow.out.free (k * 2)
      have f1 := hrow.out.free (k * 2 + 1)
      have hrow' : Hid (MsgIn ((wr.setCell ⟨g, k * 2, none⟩ (.int .i64 m)).setCell ⟨g, k * 2 + 1, none⟩ (.int .i64 (m + 1))) g (markM ms k0 (k + 1)) rest) := by
        show MsgIn _ _ _ _
        rw [← markM_set ms k0 k hlt, ← hm.out]
        exact hrow.out.set k hkl ⟨m, m + 1⟩
      have hgr' : Hid (w.grownBy ((wr.setCell ⟨g, k * 2, none⟩ (.int .i64 m)).setCell ⟨g, k * 2 + 1, none⟩ (.int .i64 (m + 1))) (some g)) := grownBy_trans (grownBy_trans hgr.out (grownBy_set wr g _ _)) (grownBy_set _ g _ _)
      have hw1 : wrap64 (m + 1) = m + 1 := by unfold wrap64; omega
      have hw2 : wrap64 (m + 1 + 1) = m + 1 + 1 := by unfold wrap64; omega
      have hnm : Hid (m + 1 + 1 = k0 + 2 * ((k + 1 : Nat) : Int)) := by have := hm.out; show _ = _; omega
      have hnb : m + 1 + 1 ≤ 2199023255552 := by have := hm.out; omega
      clear hrow hgr hm hkl
      go_wp2
      go_roundw
      case rel => exact ⟨k + 1, _, by omega, by go_num, rfl, hnm, by omega, hnb, hrow', hgr'⟩
      case measure => simp [intOf]; omega
    · obtain rfl : k = ms.length := by omega
      have hend : Hid (MsgIn wr g (upMsgs k0 ms.length) rest) := by have := hrow.out; rw [markM_end] at this; exact this
      have hm' : Hid (m = k0 + 2 * (ms.length : Int)) := hm
      clear hrow hm
      go_wp2
      go_ret
      exact ⟨by rw [hm'.out]; rfl, hend.out, hgr.out⟩
set_option maxHeartbeats 1000000 in
theorem heldMsgS_up (v : Value) (n : Nat) (k0 : Int) (w : World) (hx : IsMsgs w v (upMsgs k0 n)) (hn : n ≤ 1048576) (h0 : 0 ≤ k0) (h1 : k0 ≤ 1099511627776) :
    Calls Tryz.prog 64 #[v, .int .i64 k0] w fun e w' => e = .returned (.int .i64 (k0 + 2 * n)) ∧ w = w' := by
  obtain ⟨a, cap, rfl, hcap, _⟩ := id hx
  rw [upMsgs_length] at hcap hx ⊢
  have HX : Hid (∀ i, i < n → ∃ p q, a = some p ∧ p.add (i * 2) = q ∧ Cells2 w q ⟨k0 + 2 * (i : Int), k0 + 2 * (i : Int) + 1⟩) := fun i hi => by
    obtain ⟨p, q, e1, e2, e3⟩ := hx.at (i := i) (by rw [upMsgs_length]; exact hi)
    rw [upMsgs_at _ _ _ hi] at e3
    exact ⟨p, q, e1, e2, e3⟩
  have hne : ∀ x : Int, (x != x) = false := by simp
  clear hx
  go_enter Tryz.func64, Tryz.ntmps64
  go_wp2
  go_loop [1, 5] (fun q i => ∃ (k : Nat) (m : Int), k ≤ n ∧ i = .int .i64 k ∧ q = .int .i64 m ∧ Hid (m = k0 + 2 * (k : Int)) ∧ 0 ≤ m ∧ m ≤ 2199023255552) (fun _ i => n - (intOf i).toNat)
  case atStart => exact ⟨0, _, Nat.zero_le _, rfl, rfl, by show _ = _; simp, by omega, by omega⟩
  case round =>
    obtain ⟨k, m, hk, rfl, rfl, hm, hm0, hm1⟩ := hrel
    by_cases hlt : k < n
    · obtain ⟨p, q, rfl, hq, c0, c1⟩ := HX.out k hlt
      rw [← hm.out] at c0 c1
      have hw1 : wrap64 (m + 1) = m + 1 := by unfold wrap64; omega
      have hw2 : wrap64 (m + 1 + 1) = m + 1 + 1 := by unfold wrap64; omega
      have hnm : Hid (m + 1 + 1 = k0 + 2 * ((k + 1 : Nat) : Int)) := by have := hm.out; show _ = _; omega
      have hnb : m + 1 + 1 ≤ 2199023255552 := by have := hm.out; omega
      clear hm
      go_wp2
      exact ⟨⟨k + 1, _, by omega, by go_num, rfl, hnm, by omega, hnb⟩, by simp [intOf]; omega⟩
    · obtain rfl : k = n := by omega
      have hm' : Hid (m = k0 + 2 * (k : Int)) := hm
      clear hm
      go_wp2
      go_ret
      exact ⟨by rw [hm'.out]; rfl, rfl⟩
/-- Nothing is turned but some blocks. -/
structure Touch (bs : List Nat) (w w' : World) : Prop where
  block : ∀ k x, k ∉ bs → w.heap[k]? = some x → w'.heap[k]? = some x
  below : ∀ B w0, (∀ b, b ∈ bs → B ≤ b) → Below B w0 w → Below B w0 w'
theorem touch_one {w w' : World} {g : Nat} (hg : w.grownBy w' (some g)) (h3 : g < w.heap.size) : Touch [g] w w' :=
  ⟨fun k x hk hx => grown_kept hg hx (fun e => by cases e; simp at hk), fun B w0 hB hb => hb.grown hg (by have := hB g (by simp); omega) (fun k e => by cases e; exact hB g (by simp))⟩
theorem touch_none (w : World) : Touch [] w w := ⟨fun _ _ _ h => h, fun _ _ _ h => h⟩
theorem upFrom_nil (k : Int) : upFrom k 0 = [] := rfl
theorem markIntS_nil (a : Option Addr) (cap : Nat) (k0 : Int) (w : World) :
    Calls Tryz.prog 61 #[.slice a 0 cap, .int .i64 k0] w fun e w' => e = .returned (.int .i64 k0) ∧ w = w' := by
  go_enter Tryz.func61, Tryz.ntmps61
  go_wp2
  go_loop [1, 5] (fun q i => i = .int .i64 0 ∧ q = .int .i64 k0) (fun _ i => 0)
  case atStart => exact ⟨rfl, rfl⟩
  case round =>
    obtain ⟨rfl, rfl⟩ := hrel
    go_wp2
    go_ret
    exact ⟨rfl, rfl⟩
theorem markMsgS_nil (a : Option Addr) (cap : Nat) (k0 : Int) (w : World) :
    Calls Tryz.prog 62 #[.slice a 0 cap, .int .i64 k0] w fun e w' => e = .returned (.int .i64 k0) ∧ w = w' := by
  go_enter Tryz.func62, Tryz.ntmps62
  go_wp2
  go_loop [1, 5] (fun q i => i = .int .i64 0 ∧ q = .int .i64 k0) (fun _ i => 0)
  case atStart => exact ⟨rfl, rfl⟩
  case round =>
    obtain ⟨rfl, rfl⟩ := hrel
    go_wp2
    go_ret
    exact ⟨rfl, rfl⟩
theorem markI_own (lo hi : Nat) (v : Value) (xs : List Int) (k0 : Int) (w : World) (h : OwnI lo hi w v xs) (hn : xs.length ≤ 1048576) (h0 : 0 ≤ k0) (h1 : k0 ≤ 1099511627776) :
    Calls Tryz.prog 61 #[v, .int .i64 k0] w fun e w' => e = .returned (.int .i64 (k0 + xs.length)) ∧ OwnI lo hi w' v (upFrom k0 xs.length) ∧ Touch (blk v) w w' := by
  obtain ⟨a, cap, rfl, hc, hx⟩ := h
  by_cases hz : xs.length = 0
  · rw [hz]
    refine (markIntS_nil a cap k0 w).mono ?_
    rintro e w' ⟨rfl, rfl⟩
    obtain rfl : xs = [] := List.length_eq_zero_iff.1 hz
    exact ⟨by simp, ⟨a, cap, rfl, hc, hx⟩, fun _ _ _ h => h, fun _ _ _ h => h⟩
  · obtain ⟨g, rs, rfl, hl, hh, hr, hzz⟩ := hx (by omega)
    refine (markIntS_row g cap xs rs k0 w hr hc hn h0 h1).mono ?_
    rintro e w' ⟨rfl, hr', hg⟩
    refine ⟨rfl, ⟨_, cap, by rw [upFrom_length], by rw [upFrom_length]; exact hc, fun _ => ⟨g, rs, rfl, hl, hh, hr', by rw [upFrom_length]; exact hzz⟩⟩, ?_⟩
    rw [blk_one _ (by omega)]
    exact touch_one hg (lt_of_block hr)
theorem markM_own (lo hi : Nat) (v : Value) (ms : List Ms) (k0 : Int) (w : World) (h : OwnM lo hi w v ms) (hn : ms.length ≤ 1048576) (h0 : 0 ≤ k0) (h1 : k0 ≤ 1099511627776) :
    Calls Tryz.prog 62 #[v, .int .i64 k0] w fun e w' => e = .returned (.int .i64 (k0 + 2 * ms.length)) ∧ OwnM lo hi w' v (upMsgs k0 ms.length) ∧ Touch (blk v) w w' := by
  obtain ⟨a, cap, rfl, hc, hx⟩ := h
  by_cases hz : ms.length = 0
  · rw [hz]
    refine (markMsgS_nil a cap k0 w).mono ?_
    rintro e w' ⟨rfl, rfl⟩
    obtain rfl : ms = [] := List.length_eq_zero_iff.1 hz
    exact ⟨by simp, ⟨a, cap, rfl, hc, hx⟩, fun _ _ _ h => h, fun _ _ _ h => h⟩
  · obtain ⟨g, rs, rfl, hl, hh, hr, hzz⟩ := hx (by omega)
    refine (markMsgS_row g cap ms rs k0 w hr hc hn h0 h1).mono ?_
    rintro e w' ⟨rfl, hr', hg⟩
    refine ⟨rfl, ⟨_, cap, by rw [upMsgs_length], by rw [upMsgs_length]; exact hc, fun _ => ⟨g, rs, rfl, hl, hh, hr', by rw [upMsgs_length]; exact hzz⟩⟩, ?_⟩
    rw [blk_one _ (by omega)]
    exact touch_one hg (lt_of_block hr)
end Go.Proofs.YtbdljoldblpffaaGreat
namespace Go.Proofs.YtbdljoldblpffaaGreat
open Go.RowKit
set_option linter.unusedVariables false
set_option maxRecDepth 100000

def thirdB (x : Int) : Bool := x.tmod 3 == 0
/-- A thing as it is marked from m on. -/
def upOb (m : Int) (o : Ob) : Ob := ⟨m, m + 1, m + 1 + 1, m + 1 + 1 + 1, m + 1 + 1 + 1 + 1, m + 1 + 1 + 1 + 1 + 1, m + 1 + 1 + 1 + 1 + 1 + 1, m + 1 + 1 + 1 + 1 + 1 + 1 + 1, m + 1 + 1 + 1 + 1 + 1 + 1 + 1 + 1, thirdB (m + 1 + 1 + 1 + 1 + 1 + 1 + 1 + 1 + 1), upFrom (m + 1 + 1 + 1 + 1 + 1 + 1 + 1 + 1 + 1 + 1) o.ls.length, upFrom (m + 1 + 1 + 1 + 1 + 1 + 1 + 1 + 1 + 1 + 1 + o.ls.length) o.ds.length, upMsgs (m + 1 + 1 + 1 + 1 + 1 + 1 + 1 + 1 + 1 + 1 + o.ls.length + o.ds.length) o.qs.length⟩
def stepN (o : Ob) : Int := 10 + o.ls.length + o.ds.length + 2 * o.qs.length
def stepS (os : List Ob) : Int := (os.map stepN).sum
theorem stepS_cons (o : Ob) (os : List Ob) : stepS (o :: os) = stepN o + stepS os := by simp [stepS]
theorem stepS_append (a b : List Ob) : stepS (a ++ b) = stepS a + stepS b := by simp [stepS]
def upArena : Int → List Ob → List Ob
  | _, [] => []
  | m, o :: os => upOb m o :: upArena (m + stepN o) os
theorem upArena_length : ∀ (m : Int) (os : List Ob), (upArena m os).length = os.length
  | _, [] => rfl
  | m, o :: os => by simp [upArena, upArena_length]
theorem upArena_snoc : ∀ (os : List Ob) (m : Int) (o : Ob), upArena m (os ++ [o]) = upArena m os ++ [upOb (m + stepS os) o]
  | [], m, o => by simp [upArena, stepS]
  | p :: os, m, o => by
    rw [List.cons_append, upArena, upArena_snoc os, upArena, List.cons_append, stepS_cons, Int.add_assoc]
theorem upArena_at {os : List Ob} {k : Nat} (m : Int) (h : k < os.length) : obAt (upArena m os) k = upOb (m + stepS (os.take k)) (obAt os k) := by
  have e : os = os.take (k + 1) ++ os.drop (k + 1) := (List.take_append_drop _ _).symm
  have e2 : ∀ (a b : List Ob) (m : Int), upArena m (a ++ b) = upArena m a ++ upArena (m + stepS a) b := by
    intro a
    induction a with
    | nil => intro b m; simp [upArena, stepS]
    | cons x a ih => intro b m; rw [List.cons_append, upArena, ih, upArena, List.cons_append, stepS_cons, Int.add_assoc]
  have e3 : upArena m os = (upArena m (os.take k) ++ [upOb (m + stepS (os.take k)) (obAt os k)]) ++ upArena (m + stepS (os.take (k + 1))) (os.drop (k + 1)) := by
    rw [← upArena_snoc, ← take_ob h, ← e2, List.take_append_drop]
  unfold obAt
  rw [e3, List.getD_eq_getElem?_getD, List.append_assoc, List.getElem?_append_right (by rw [upArena_length, List.length_take]; omega), upArena_length, List.length_take]
  rw [show k - min k os.length = 0 by omega]
  rfl
theorem stepS_take {os : List Ob} {k : Nat} (h : k < os.length) : stepS (os.take (k + 1)) = stepS (os.take k) + stepN (obAt os k) := by
  rw [take_ob h, stepS_append]; simp [stepS]
theorem stepS_bound : ∀ os : List Ob, 0 ≤ stepS os ∧ stepS os ≤ 10 * (os.length : Int) + 2 * (arN os : Int)
  | [] => by simp [stepS, arN]
  | o :: os => by
    have ih := stepS_bound os
    rw [stepS_cons, arN_cons, List.length_cons]
    unfold stepN obN
    omega
theorem stepS_take_bound (os : List Ob) (k : Nat) : 0 ≤ stepS (os.take k) ∧ stepS (os.take k) ≤ 10 * (os.length : Int) + 2 * (arN os : Int) := by
  have h := stepS_bound (os.take k)
  have h2 := arN_take_le os k
  have h3 : (os.take k).length ≤ os.length := by rw [List.length_take]; omega
  omega
/-- The first k are marked. -/
def markA (os : List Ob) (k : Nat) : List Ob := upArena 1 (os.take k) ++ os.drop k
theorem markA_start (os : List Ob) : markA os 0 = os := by simp [markA, upArena]
theorem markA_end (os : List Ob) : markA os os.length = upArena 1 os := by simp [markA]
theorem markA_at {os : List Ob} {k : Nat} (h : k < os.length) : obAt (markA os k) k = obAt os k := by
  unfold obAt markA
  rw [List.getD_eq_getElem?_getD, List.getElem?_append_right (by rw [upArena_length, List.length_take]; omega), upArena_length, List.length_take, List.getElem?_drop, List.getD_eq_getElem?_getD]
  rw [show k + (k - min k os.length) = k by omega]
theorem markA_set {os : List Ob} {k : Nat} (h : k < os.length) : (markA os k).set k (upOb (1 + stepS (os.take k)) (obAt os k)) = markA os (k + 1) := by
  unfold markA
  rw [List.set_append_right _ _ (by rw [upArena_length, List.length_take]; omega), upArena_length, List.length_take, take_ob h, upArena_snoc, List.append_assoc]
  rw [show k - min k os.length = 0 by omega, List.drop_eq_getElem_cons h, List.set_cons_zero]
  rfl
/-- Nothing is turned but between two blocks. -/
structure Turned8 (lo hi : Nat) (w w' : World) : Prop where
  block : ∀ k x, w.heap[k]? = some x → (k < lo ∨ hi ≤ k) → w'.heap[k]? = some x
  below : ∀ B w0, B ≤ lo → Below B w0 w → Below B w0 w'
theorem Turned8.refl (lo hi : Nat) (w : World) : Turned8 lo hi w w := ⟨fun _ _ h _ => h, fun _ _ _ h => h⟩
theorem Turned8.touch {lo hi : Nat} {w w1 w2 : World} {bs : List Nat} (h : Turned8 lo hi w w1) (ht : Touch bs w1 w2) (hb : ∀ b, b ∈ bs → lo ≤ b ∧ b < hi) : Turned8 lo hi w w2 :=
  ⟨fun k x hk hc => ht.block k x (fun hm => by have := hb k hm; omega) (h.block k x hk hc), fun B w0 hB hbl => ht.below B w0 (fun b hm => Nat.le_trans hB (hb b hm).1) (h.below B w0 hB hbl)⟩
theorem OwnI.keepIf {lo hi : Nat} {w w' : World} {v : Value} {xs : List Int} (h : OwnI lo hi w v xs) (hk : ∀ b x, b ∈ Go.Proofs.YtbdljoldblpffaaGreat.blk v → w.heap[b]? = some x → w'.heap[b]? = some x) : OwnI lo hi w' v xs := by
  obtain ⟨a, c, rfl, hc, hx⟩ := h
  refine ⟨a, c, rfl, hc, fun h0 => ?_⟩
  obtain ⟨b, rs, rfl, h1, h2, h3, h4⟩ := hx h0
  exact ⟨b, rs, rfl, h1, h2, hk _ _ (by rw [blk_one _ h0]; simp) h3, h4⟩
theorem OwnM.keepIf {lo hi : Nat} {w w' : World} {v : Value} {ms : List Ms} (h : OwnM lo hi w v ms) (hk : ∀ b x, b ∈ Go.Proofs.YtbdljoldblpffaaGreat.blk v → w.heap[b]? = some x → w'.heap[b]? = some x) : OwnM lo hi w' v ms := by
  obtain ⟨a, c, rfl, hc, hx⟩ := h
  refine ⟨a, c, rfl, hc, fun h0 => ?_⟩
  obtain ⟨b, rs, rfl, h1, h2, h3, h4⟩ := hx h0
  exact ⟨b, rs, rfl, h1, h2, hk _ _ (by rw [blk_one _ h0]; simp) h3, h4⟩
/-- One of the things is turned where it lies. -/
theorem OwnA.mark {g cap : Nat} {es : List El} {rest : List Value} {lo hi : Nat} {w w' : World} (h : OwnA g cap es rest lo hi w) {k : Nat} (hk : k < es.length) {o' : Ob}
    (hg : w'.heap[g]? = some (.cells (ecells (es.set k ⟨o', (elAt es k).l, (elAt es k).d, (elAt es k).m⟩) ++ rest).toArray 55 (0, 0))) (ho : OwnO lo hi w' (elAt es k).l (elAt es k).d (elAt es k).m o')
    (hother : ∀ b x, b ≠ g → b ∉ blks (elAt es k) → w.heap[b]? = some x → w'.heap[b]? = some x) : OwnA g cap (es.set k ⟨o', (elAt es k).l, (elAt es k).d, (elAt es k).m⟩) rest lo hi w' := by
  have hbl : ∀ i, blks (elAt (es.set k ⟨o', (elAt es k).l, (elAt es k).d, (elAt es k).m⟩) i) = blks (elAt es i) := fun i => by
    by_cases he : k = i
    · subst he; rw [elAt_set_same hk]; rfl
    · rw [elAt_set_other _ _ he]
  refine ⟨hg, by rw [List.length_set]; exact h.cap, h.lo, h.hi, fun i hi0 => ?_, fun i hi0 => ?_, fun i j hij hj => ?_⟩
  · rw [List.length_set] at hi0
    by_cases he : k = i
    · subst he; rw [elAt_set_same hk]; exact ho
    · rw [elAt_set_other _ _ he]
      have hi1 := h.own i hi0
      have hk2 : ∀ b x, b ∈ blks (elAt es i) → w.heap[b]? = some x → w'.heap[b]? = some x := fun b x hb hx => hother b x (fun e => h.ne i hi0 (by rw [← e]; exact hb)) (fun hm => by
        rcases Nat.lt_or_gt_of_ne he with hlt | hgt
        · exact h.apart k i hlt hi0 b hm hb
        · exact h.apart i k hgt hk b hb hm) hx
      exact ⟨hi1.ls.keepIf fun b x hb hx => hk2 b x (by simp [blks, hb]) hx, hi1.ds.keepIf fun b x hb hx => hk2 b x (by simp [blks, hb]) hx, hi1.qs.keepIf fun b x hb hx => hk2 b x (by simp [blks, hb]) hx, hi1.nd⟩
  · rw [List.length_set] at hi0
    rw [hbl]; exact h.ne i hi0
  · rw [List.length_set] at hj
    rw [hbl, hbl]; exact h.apart i j hij hj
/-- Ten cells are written. -/
def w10 (w : World) (g i : Nat) (v0 v1 v2 v3 v4 v5 v6 v7 v8 : Int) (b : Bool) : World := ((((((((((w).setCell ⟨g, i, none⟩ (.int .i64 v0)).setCell ⟨g, i + 1, none⟩ (.int .i64 v1)).setCell ⟨g, i + 2, none⟩ (.int .i64 v2)).setCell ⟨g, i + 3, none⟩ (.int .i64 v3)).setCell ⟨g, i + 4, none⟩ (.int .i64 v4)).setCell ⟨g, i + 5, none⟩ (.int .i64 v5)).setCell ⟨g, i + 6, none⟩ (.int .i64 v6)).setCell ⟨g, i + 7, none⟩ (.int .i64 v7)).setCell ⟨g, i + 8, none⟩ (.int .i64 v8)).setCell ⟨g, i + 9, none⟩ (.bool b)
theorem heap_w10 {w : World} {g : Nat} {t : TypeId} {xs : Array Value} (h : w.heap[g]? = some (.cells xs t (0, 0))) (i : Nat) (v0 v1 v2 v3 v4 v5 v6 v7 v8 : Int) (b : Bool) : (w10 w g i v0 v1 v2 v3 v4 v5 v6 v7 v8 b).heap[g]? = some (.cells (((((((((((xs).setIfInBounds (i) (.int .i64 v0)).setIfInBounds (i + 1) (.int .i64 v1)).setIfInBounds (i + 2) (.int .i64 v2)).setIfInBounds (i + 3) (.int .i64 v3)).setIfInBounds (i + 4) (.int .i64 v4)).setIfInBounds (i + 5) (.int .i64 v5)).setIfInBounds (i + 6) (.int .i64 v6)).setIfInBounds (i + 7) (.int .i64 v7)).setIfInBounds (i + 8) (.int .i64 v8)).setIfInBounds (i + 9) (.bool b)) t (0, 0)) := by
  have h0 := heap_setCell_same w g (i) _ t (.int .i64 v0) h
  have h1 := heap_setCell_same _ g (i + 1) _ t (.int .i64 v1) h0
  have h2 := heap_setCell_same _ g (i + 2) _ t (.int .i64 v2) h1
  have h3 := heap_setCell_same _ g (i + 3) _ t (.int .i64 v3) h2
  have h4 := heap_setCell_same _ g (i + 4) _ t (.int .i64 v4) h3
  have h5 := heap_setCell_same _ g (i + 5) _ t (.int .i64 v5) h4
  have h6 := heap_setCell_same _ g (i + 6) _ t (.int .i64 v6) h5
  have h7 := heap_setCell_same _ g (i + 7) _ t (.int .i64 v7) h6
  have h8 := heap_setCell_same _ g (i + 8) _ t (.int .i64 v8) h7
  have h9 := heap_setCell_same _ g (i + 9) _ t (.bool b) h8
  exact h9
theorem touch_w10 {w : World} {g : Nat} (hg : g < w.heap.size) (i : Nat) (v0 v1 v2 v3 v4 v5 v6 v7 v8 : Int) (b : Bool) : Touch [g] w (w10 w g i v0 v1 v2 v3 v4 v5 v6 v7 v8 b) :=
  ⟨fun k x hk h => by
    have hne : k ≠ g := fun e => hk (by simp [e])
    exact (setCell_keep (setCell_keep (setCell_keep (setCell_keep (setCell_keep (setCell_keep (setCell_keep (setCell_keep (setCell_keep (setCell_keep h hne) hne) hne) hne) hne) hne) hne) hne) hne) hne), fun B w0 hB h => by
    have hg : B ≤ g := hB g (by simp)
    exact (Below.setCell (Below.setCell (Below.setCell (Below.setCell (Below.setCell (Below.setCell (Below.setCell (Below.setCell (Below.setCell (Below.setCell h hg _) hg _) hg _) hg _) hg _) hg _) hg _) hg _) hg _) hg _)⟩
theorem ecells_put10 {es : List El} {i : Nat} (h : i < es.length) (rest : List Value) (o : Ob) : ecells (es.set i ⟨o, (elAt es i).l, (elAt es i).d, (elAt es i).m⟩) ++ rest = (((((((((((ecells es ++ rest).set (i * 13) (.int .i64 o.gen)).set (i * 13 + 1) (.int .i64 o.kind)).set (i * 13 + 2) (.int .i64 o.into)).set (i * 13 + 3) (.int .i64 o.res)).set (i * 13 + 4) (.int .i64 o.unt)).set (i * 13 + 5) (.int .i64 o.pages)).set (i * 13 + 6) (.int .i64 o.wait)).set (i * 13 + 7) (.int .i64 o.got)).set (i * 13 + 8) (.int .i64 o.ran)).set (i * 13 + 9) (.bool o.mark)) := by
  obtain ⟨A, B, hA, h1, h2⟩ := ecells_block h
  rw [h1, h2]
  simp only [List.append_assoc]
  rw [set_behind0 _ _ _ _ hA]
  rw [set_behind _ _ _ _ _ hA, set_behind _ _ _ _ _ hA, set_behind _ _ _ _ _ hA, set_behind _ _ _ _ _ hA, set_behind _ _ _ _ _ hA, set_behind _ _ _ _ _ hA, set_behind _ _ _ _ _ hA, set_behind _ _ _ _ _ hA, set_behind _ _ _ _ _ hA]
  simp [elV]
/-- What ten cells written leave of an arena. -/
theorem OwnA.ten {g cap : Nat} {es : List El} {rest : List Value} {lo hi : Nat} {w : World} (h : OwnA g cap es rest lo hi w) {k : Nat} (hk : k < es.length) (v0 v1 v2 v3 v4 v5 v6 v7 v8 : Int) (b : Bool) :
    (w10 w g (k * 13) v0 v1 v2 v3 v4 v5 v6 v7 v8 b).heap[g]? = some (.cells (ecells (es.set k ⟨⟨v0, v1, v2, v3, v4, v5, v6, v7, v8, b, (elAt es k).o.ls, (elAt es k).o.ds, (elAt es k).o.qs⟩, (elAt es k).l, (elAt es k).d, (elAt es k).m⟩) ++ rest).toArray 55 (0, 0)) := by
  rw [heap_w10 h.at', ecells_put10 hk]
  simp only [List.setIfInBounds_toArray]
theorem cell_of {w : World} {g : Nat} {es : List El} {rest : List Value} (h : w.heap[g]? = some (.cells (ecells es ++ rest).toArray 55 (0, 0))) {i : Nat} (hi' : i < es.length) {j : Nat} (hj : j < 13) : w.cell? ⟨g, i * 13 + j, none⟩ = (elV (elAt es i))[j]? := by
  simp only [World.cell?, h, List.getElem?_toArray]
  exact ecells_at hi' rest hj
/-- What the three calls on a thing's lists leave. -/
theorem lists_marked {lo hi : Nat} {w w1 w2 w3 : World} {l d m : Value} {o o' : Ob} (h : OwnO lo hi w l d m o) (h1 : OwnI lo hi w1 l o'.ls) (t1 : Touch (blk l) w w1) (h2 : OwnI lo hi w2 d o'.ds) (t2 : Touch (blk d) w1 w2) (h3 : OwnM lo hi w3 m o'.qs) (t3 : Touch (blk m) w2 w3) : OwnO lo hi w3 l d m o' := by
  have nd := h.nd
  rw [List.nodup_append, List.nodup_append] at nd
  obtain ⟨⟨_, _, hld⟩, _, hlm⟩ := nd
  refine ⟨h1.keepIf fun b x hb hx => t3.block _ _ (fun hm => hlm b (by simp [hb]) b hm rfl) (t2.block _ _ (fun hm => hld b hb b hm rfl) hx), h2.keepIf fun b x hb hx => t3.block _ _ (fun hm => hlm b (by simp [hb]) b hm rfl) hx, h3, h.nd⟩
theorem apart_ld {lo hi : Nat} {w : World} {l d m : Value} {o : Ob} (h : OwnO lo hi w l d m o) : (∀ b, b ∈ blk d → b ∉ blk l) ∧ (∀ b, b ∈ blk m → b ∉ blk l ∧ b ∉ blk d) := by
  have nd := h.nd
  rw [List.nodup_append, List.nodup_append] at nd
  obtain ⟨⟨_, _, hld⟩, _, hlm⟩ := nd
  exact ⟨fun b hb hl => hld b hl b hb rfl, fun b hb => ⟨fun hl => hlm b (by simp [hl]) b hb rfl, fun hd => hlm b (by simp [hd]) b hb rfl⟩⟩
set_option maxRecDepth 100000 in
set_option maxHeartbeats 8000000 in
theorem markObjS_own (g cap n : Nat) (fs : List El) (rest : List Value) (lo hi : Nat) (w : World) (h : OwnA g cap fs rest lo hi w) (hn : n = fs.length) (hl : ((n : Int) + arN (arOf fs)) ≤ 1048576) :
    Calls Tryz.prog 34 #[.slice (some ⟨g, 0, none⟩) n cap, .int .i64 1] w fun e w' => e = .returned (.int .i64 (1 + stepS (arOf fs))) ∧ (∃ fs', arOf fs' = upArena 1 (arOf fs) ∧ OwnA g cap fs' rest lo hi w') ∧ Turned8 lo hi w w' := by
  have hcap : n ≤ cap := by rw [hn]; exact h.cap
  obtain ⟨os, hos⟩ : ∃ os, arOf fs = os := ⟨_, rfl⟩
  have hlen : os.length = n := by rw [← hos, arOf_length, hn]
  have H0 : Hid (∃ fs', arOf fs' = markA os 0 ∧ OwnA g cap fs' rest lo hi w ∧ Turned8 lo hi w w) := ⟨fs, by rw [markA_start, hos], h, Turned8.refl _ _ _⟩
  rw [hos] at hl ⊢
  have HNL : Hid (os.length = n ∧ ((n : Int) + arN os) ≤ 1048576) := ⟨hlen, hl⟩
  have hn6 : n ≤ 1048576 := by omega
  clear h hn hl hos hlen
  go_enter Tryz.func34, Tryz.ntmps34
  go_wp2
  go_loopw [1, 5] (fun q i wr => ∃ (k : Nat) (m : Int), k ≤ n ∧ i = .int .i64 k ∧ q = .int .i64 m ∧ Hid (m = 1 + stepS (os.take k)) ∧ Hid (∃ fs', arOf fs' = markA os k ∧ OwnA g cap fs' rest lo hi wr ∧ Turned8 lo hi w wr)) (fun _ i _ => n - (intOf i).toNat)
  case atStart => exact ⟨0, _, Nat.zero_le _, rfl, rfl, by show _ = _; simp [stepS], H0⟩
  case round =>
    obtain ⟨k, m, hk, rfl, rfl, hm, hs⟩ := hrel
    clear H0
    by_cases hlt : k < n
    · have HF : Hid (arOf hs.out.choose = markA os k ∧ OwnA g cap hs.out.choose rest lo hi wr ∧ Turned8 lo hi w wr) := hs.out.choose_spec
      generalize hs.out.choose = fs' at HF
      clear hs
      have hko : k < os.length := by rw [HNL.out.1]; exact hlt
      have hfl : fs'.length = n := by have e := congrArg List.length HF.out.1; rw [arOf_length] at e; rw [e]; unfold markA; rw [List.length_append, upArena_length, List.length_take, List.length_drop, HNL.out.1]; omega
      have hkf : k < fs'.length := by omega
      have hob : (elAt fs' k).o = obAt os k := by rw [← arOf_at, HF.out.1, markA_at hko]
      have hsb := stepS_take_bound os k
      have hob2 := obAt_le os k
      rw [← hob] at hob2
      have hmb : 0 ≤ m ∧ m ≤ 20000000 := by have h1 := hm.out; have h2 := HNL.out; omega
      have hown := HF.out.2.1
      have hoo := hown.own k hkf
      have hc := hown.cells hkf
      have hne := hown.ne k hkf
      have hgz : g < wr.heap.size := lt_of_block hown.at'
      unfold blks at hne
      simp only [List.mem_append, not_or] at hne
      have hfr := hown.free
      obtain ⟨tb, htb⟩ : ∃ tb, tb = thirdB (m + 1 + 1 + 1 + 1 + 1 + 1 + 1 + 1 + 1) := ⟨_, rfl⟩
      have ht : ((m + 1 + 1 + 1 + 1 + 1 + 1 + 1 + 1 + 1).tmod 3 == 0) = tb := htb.symm
      have ht2 : ((m + 1 + 1 + 1 + 1 + 1 + 1 + 1 + 1 + 1) % 3 == 0) = tb := by rw [← ht, Int.tmod_eq_emod_of_nonneg (by omega)]
      have h10 := hown.ten hkf (m) (m + 1) (m + 1 + 1) (m + 1 + 1 + 1) (m + 1 + 1 + 1 + 1) (m + 1 + 1 + 1 + 1 + 1) (m + 1 + 1 + 1 + 1 + 1 + 1) (m + 1 + 1 + 1 + 1 + 1 + 1 + 1) (m + 1 + 1 + 1 + 1 + 1 + 1 + 1 + 1) tb
      have t10 := touch_w10 hgz (k * 13) (m) (m + 1) (m + 1 + 1) (m + 1 + 1 + 1) (m + 1 + 1 + 1 + 1) (m + 1 + 1 + 1 + 1 + 1) (m + 1 + 1 + 1 + 1 + 1 + 1) (m + 1 + 1 + 1 + 1 + 1 + 1 + 1) (m + 1 + 1 + 1 + 1 + 1 + 1 + 1 + 1) tb
      have HE : Hid (∀ W3, W3.heap[g]? = some (.cells (ecells (fs'.set k ⟨upOb m (elAt fs' k).o, (elAt fs' k).l, (elAt fs' k).d, (elAt fs' k).m⟩) ++ rest).toArray 55 (0, 0)) → OwnO lo hi W3 (elAt fs' k).l (elAt fs' k).d (elAt fs' k).m (upOb m (elAt fs' k).o) → (∀ b x, b ≠ g → b ∉ blks (elAt fs' k) → wr.heap[b]? = some x → W3.heap[b]? = some x) → Turned8 lo hi w W3 → ∃ fs', arOf fs' = markA os (k + 1) ∧ OwnA g cap fs' rest lo hi W3 ∧ Turned8 lo hi w W3) := fun W3 e1 e2 e3 e4 => by
        refine ⟨_, ?_, hown.mark hkf e1 e2 e3, e4⟩
        rw [arOf_set, HF.out.1, hob, hm.out, markA_set hko]
      have HTW := hid_of HF.out.2.2
      have HMM : Hid (m + 1 + 1 + 1 + 1 + 1 + 1 + 1 + 1 + 1 + 1 + (((elAt fs' k).o.ls.length : Nat) : Int) + (((elAt fs' k).o.ds.length : Nat) : Int) + 2 * (((elAt fs' k).o.qs.length : Nat) : Int) = 1 + stepS (os.take (k + 1))) := by
        have e1 := stepS_take hko
        rw [← hob] at e1
        have e2 := hm.out
        unfold stepN at e1
        show _ = _
        omega
      have hbz : ∀ b, b ∈ blks (elAt fs' k) → lo ≤ b ∧ b < hi := fun b hb => ⟨(hoo.blk hb).1, (hoo.blk hb).2.1⟩
      have hgb : lo ≤ g ∧ g < hi := ⟨hown.lo, hown.hi⟩
      have hrestc : ∀ {W : World} (hW : W.heap[g]? = some (.cells (ecells (fs'.set k ⟨⟨m, m + 1, m + 1 + 1, m + 1 + 1 + 1, m + 1 + 1 + 1 + 1, m + 1 + 1 + 1 + 1 + 1, m + 1 + 1 + 1 + 1 + 1 + 1, m + 1 + 1 + 1 + 1 + 1 + 1 + 1, m + 1 + 1 + 1 + 1 + 1 + 1 + 1 + 1, tb, (elAt fs' k).o.ls, (elAt fs' k).o.ds, (elAt fs' k).o.qs⟩, (elAt fs' k).l, (elAt fs' k).d, (elAt fs' k).m⟩) ++ rest).toArray 55 (0, 0))), W.heap[g]? = some (.cells (ecells (fs'.set k ⟨upOb m (elAt fs' k).o, (elAt fs' k).l, (elAt fs' k).d, (elAt fs' k).m⟩) ++ rest).toArray 55 (0, 0)) := fun hW => by
        obtain ⟨A, B, hA, h1, h2⟩ := ecells_block hkf
        rw [hW, h2, h2]
        simp only [elV, upOb, htb]
      have hcell : ∀ {W : World} (hW : W.heap[g]? = some (.cells (ecells (fs'.set k ⟨⟨m, m + 1, m + 1 + 1, m + 1 + 1 + 1, m + 1 + 1 + 1 + 1, m + 1 + 1 + 1 + 1 + 1, m + 1 + 1 + 1 + 1 + 1 + 1, m + 1 + 1 + 1 + 1 + 1 + 1 + 1, m + 1 + 1 + 1 + 1 + 1 + 1 + 1 + 1, tb, (elAt fs' k).o.ls, (elAt fs' k).o.ds, (elAt fs' k).o.qs⟩, (elAt fs' k).l, (elAt fs' k).d, (elAt fs' k).m⟩) ++ rest).toArray 55 (0, 0))), W.cell? ⟨g, k * 13 + 11, none⟩ = some (elAt fs' k).d ∧ W.cell? ⟨g, k * 13 + 12, none⟩ = some (elAt fs' k).m := fun hW => by
        have hk2 : k < (fs'.set k ⟨⟨m, m + 1, m + 1 + 1, m + 1 + 1 + 1, m + 1 + 1 + 1 + 1, m + 1 + 1 + 1 + 1 + 1, m + 1 + 1 + 1 + 1 + 1 + 1, m + 1 + 1 + 1 + 1 + 1 + 1 + 1, m + 1 + 1 + 1 + 1 + 1 + 1 + 1 + 1, tb, (elAt fs' k).o.ls, (elAt fs' k).o.ds, (elAt fs' k).o.qs⟩, (elAt fs' k).l, (elAt fs' k).d, (elAt fs' k).m⟩).length := by rw [List.length_set]; exact hkf
        have e1 := cell_of hW hk2 (j := 11) (by decide)
        have e2 := cell_of hW hk2 (j := 12) (by decide)
        rw [elAt_set_same hkf] at e1 e2
        exact ⟨e1, e2⟩
      have HUP : Hid ((upOb m (elAt fs' k).o).ls = upFrom (m + 1 + 1 + 1 + 1 + 1 + 1 + 1 + 1 + 1 + 1) (elAt fs' k).o.ls.length ∧ (upOb m (elAt fs' k).o).ds = upFrom (m + 1 + 1 + 1 + 1 + 1 + 1 + 1 + 1 + 1 + 1 + (elAt fs' k).o.ls.length) (elAt fs' k).o.ds.length ∧ (upOb m (elAt fs' k).o).qs = upMsgs (m + 1 + 1 + 1 + 1 + 1 + 1 + 1 + 1 + 1 + 1 + (elAt fs' k).o.ls.length + (elAt fs' k).o.ds.length) (elAt fs' k).o.qs.length) := ⟨rfl, rfl, rfl⟩
      unfold blks at HE hbz
      clear hown hob
      generalize upOb m (elAt fs' k).o = ou at HE hrestc HUP
      generalize elAt fs' k = el at *
      obtain ⟨o, l, d, mm⟩ := el
      simp only at hoo hc hne h10 HE HMM hbz hrestc hcell HUP hob2
      have ho10 : OwnO lo hi (w10 wr g (k * 13) (m) (m + 1) (m + 1 + 1) (m + 1 + 1 + 1) (m + 1 + 1 + 1 + 1) (m + 1 + 1 + 1 + 1 + 1) (m + 1 + 1 + 1 + 1 + 1 + 1) (m + 1 + 1 + 1 + 1 + 1 + 1 + 1) (m + 1 + 1 + 1 + 1 + 1 + 1 + 1 + 1) tb) l d mm o := ownO_keepBut hoo (by simp only [List.mem_append, not_or]; exact hne) (fun b x hb hx => t10.block b x (by simpa using hb) hx)
      have ap := apart_ld hoo
      unfold obN at hob2
      have hnl := HNL.out.2
      have C1 := markI_own lo hi l o.ls (m + 1 + 1 + 1 + 1 + 1 + 1 + 1 + 1 + 1 + 1) (w10 wr g (k * 13) (m) (m + 1) (m + 1 + 1) (m + 1 + 1 + 1) (m + 1 + 1 + 1 + 1) (m + 1 + 1 + 1 + 1 + 1) (m + 1 + 1 + 1 + 1 + 1 + 1) (m + 1 + 1 + 1 + 1 + 1 + 1 + 1) (m + 1 + 1 + 1 + 1 + 1 + 1 + 1 + 1) tb) ho10.ls (by omega) (by omega) (by omega)
      have HT10 := hid_of (HTW.out.touch t10 (fun b hb => by simp at hb; rw [hb]; exact hgb))
      have HO10 := hid_of ho10
      have HAP := hid_of ap
      have HNE := hid_of hne
      have H10 := hid_of h10
      have HRC : Hid (∀ W, _) := fun W => @hrestc W
      have HCE : Hid (∀ W, _) := fun W => @hcell W
      have HBZ := hid_of hbz
      have HT0 := hid_of t10
      have hb3 : (o.ls.length : Int) ≤ 1048576 ∧ (o.ds.length : Int) ≤ 1048576 ∧ (o.qs.length : Int) ≤ 1048576 := by omega
      obtain ⟨c0, c1, c2, c3, c4, c5, c6, c7, c8, c9, c10, c11, c12⟩ := hc
      have fr0 := hfr (k * 13)
      have fr1 := hfr (k * 13 + 1)
      have fr2 := hfr (k * 13 + 2)
      have fr3 := hfr (k * 13 + 3)
      have fr4 := hfr (k * 13 + 4)
      have fr5 := hfr (k * 13 + 5)
      have fr6 := hfr (k * 13 + 6)
      have fr7 := hfr (k * 13 + 7)
      have fr8 := hfr (k * 13 + 8)
      have fr9 := hfr (k * 13 + 9)
      have hw0 : wrap64 (m + 1) = m + 1 := by unfold wrap64; omega
      have hw1 : wrap64 (m + 1 + 1) = m + 1 + 1 := by unfold wrap64; omega
      have hw2 : wrap64 (m + 1 + 1 + 1) = m + 1 + 1 + 1 := by unfold wrap64; omega
      have hw3 : wrap64 (m + 1 + 1 + 1 + 1) = m + 1 + 1 + 1 + 1 := by unfold wrap64; omega
      have hw4 : wrap64 (m + 1 + 1 + 1 + 1 + 1) = m + 1 + 1 + 1 + 1 + 1 := by unfold wrap64; omega
      have hw5 : wrap64 (m + 1 + 1 + 1 + 1 + 1 + 1) = m + 1 + 1 + 1 + 1 + 1 + 1 := by unfold wrap64; omega
      have hw6 : wrap64 (m + 1 + 1 + 1 + 1 + 1 + 1 + 1) = m + 1 + 1 + 1 + 1 + 1 + 1 + 1 := by unfold wrap64; omega
      have hw7 : wrap64 (m + 1 + 1 + 1 + 1 + 1 + 1 + 1 + 1) = m + 1 + 1 + 1 + 1 + 1 + 1 + 1 + 1 := by unfold wrap64; omega
      have hw8 : wrap64 (m + 1 + 1 + 1 + 1 + 1 + 1 + 1 + 1 + 1) = m + 1 + 1 + 1 + 1 + 1 + 1 + 1 + 1 + 1 := by unfold wrap64; omega
      have hw9 : wrap64 (m + 1 + 1 + 1 + 1 + 1 + 1 + 1 + 1 + 1 + 1) = m + 1 + 1 + 1 + 1 + 1 + 1 + 1 + 1 + 1 + 1 := by unfold wrap64; omega
      clear hfr ap hne h10 hrestc hcell hbz t10 ho10 hoo hsb htb hkf hfl hko hgz hgb hm HF hnl hob2
      go_wp2_with fail
      refine C1.mono ?_
      rintro e w1 ⟨rfl, hi1, ht1⟩
      have hg1 := ht1.block _ _ HNE.out.1.1 H10.out
      have hd1 := (HO10.out.ds.keepIf (w' := w1) fun b x hb hx => ht1.block _ _ (HAP.out.1 b hb) hx)
      have hm1 := (HO10.out.qs.keepIf (w' := w1) fun b x hb hx => ht1.block _ _ (HAP.out.2 b hb).1 hx)
      have d11 := (HCE.out _ hg1).1
      have C2 := markI_own lo hi d o.ds (m + 1 + 1 + 1 + 1 + 1 + 1 + 1 + 1 + 1 + 1 + o.ls.length) w1 hd1 (by omega) (by omega) (by omega)
      have HI1 := hid_of hi1
      have HT1 := hid_of ht1
      have HG1 := hid_of hg1
      have HM1 := hid_of hm1
      clear C1 hi1 ht1 hg1 hd1 hm1 c0 c1 c2 c3 c4 c5 c6 c7 c8 c9 c10 c11 c12
      go_wp2_with fail
      refine C2.mono ?_
      rintro e w2 ⟨rfl, hi2, ht2⟩
      have hg2 := ht2.block _ _ HNE.out.1.2 HG1.out
      have hm2 := (HM1.out.keepIf (w' := w2) fun b x hb hx => ht2.block _ _ (HAP.out.2 b hb).2 hx)
      have d12 := (HCE.out _ hg2).2
      have C3 := markM_own lo hi mm o.qs (m + 1 + 1 + 1 + 1 + 1 + 1 + 1 + 1 + 1 + 1 + o.ls.length + o.ds.length) w2 hm2 (by omega) (by omega) (by omega)
      have HI2 := hid_of hi2
      have HT2 := hid_of ht2
      have HG2 := hid_of hg2
      clear C2 hi2 ht2 hg2 hm2 d11 HM1 HG1
      go_wp2_with fail
      refine C3.mono ?_
      rintro e w3 ⟨rfl, hi3, ht3⟩
      have hg3 := ht3.block _ _ HNE.out.2 HG2.out
      have HS : Hid (∃ fs', arOf fs' = markA os (k + 1) ∧ OwnA g cap fs' rest lo hi w3 ∧ Turned8 lo hi w w3) := by
        refine HE.out w3 (HRC.out _ hg3) (lists_marked HO10.out (by rw [HUP.out.1]; exact HI1.out) HT1.out (by rw [HUP.out.2.1]; exact HI2.out) HT2.out (by rw [HUP.out.2.2]; exact hi3) ht3) ?_ ?_
        · intro b x hbg hbm hx
          simp only [List.mem_append, not_or] at hbm
          exact ht3.block _ _ hbm.2 (HT2.out.block _ _ hbm.1.2 (HT1.out.block _ _ hbm.1.1 (HT0.out.block _ _ (by simpa using hbg) hx)))
        · exact ((HT10.out.touch HT1.out fun b hb => HBZ.out b (by simp [hb])).touch HT2.out fun b hb => HBZ.out b (by simp [hb])).touch ht3 fun b hb => HBZ.out b (by simp [hb])
      clear C3 hi3 ht3 hg3 d12 HI1 HI2 HT1 HT2 HG2 HO10 HAP HNE H10 HRC HCE HBZ HT0 HT10 HE HUP
      go_wp2
      go_roundw
      case rel => exact ⟨k + 1, _, by omega, by go_num, rfl, HMM, HS⟩
      case measure => simp [intOf]; omega
    · obtain rfl : k = n := by omega
      have HE : Hid (m = 1 + stepS os) := by
        have e := hm.out
        rw [List.take_of_length_le (by rw [HNL.out.1]; exact Nat.le_refl _)] at e
        exact e
      have HS : Hid ((∃ fs', arOf fs' = upArena 1 os ∧ OwnA g cap fs' rest lo hi wr) ∧ Turned8 lo hi w wr) := by
        obtain ⟨fs', h1, h2, h3⟩ := hs.out
        rw [← HNL.out.1, markA_end] at h1
        exact ⟨⟨fs', h1, h2⟩, h3⟩
      clear hm hs
      go_wp2
      go_ret
      exact ⟨by rw [HE.out]; rfl, HS.out⟩
end Go.Proofs.YtbdljoldblpffaaGreat
namespace Go.Proofs.YtbdljoldblpffaaGreat
open Go.RowKit
set_option linter.unusedVariables false
set_option maxRecDepth 100000

set_option maxRecDepth 100000 in
set_option maxHeartbeats 8000000 in
theorem heldObjS_up (v : Value) (os : List Ob) (w : World) (hx : IsArena w v (upArena 1 os)) (hl : ((os.length : Int) + arN os) ≤ 1048576) :
    Calls Tryz.prog 36 #[v, .int .i64 1] w fun e w' => e = .returned (.int .i64 (1 + stepS os)) ∧ w = w' := by
  obtain ⟨a, cap, rfl, hcap, _⟩ := id hx
  rw [upArena_length] at hcap hx ⊢
  have HX : Hid (∀ i, i < os.length → ∃ p q l d mm, a = some p ∧ p.add (i * 13) = q ∧ ObCells w q (upOb (1 + stepS (os.take i)) (obAt os i)) l d mm ∧ Lists w l d mm (upOb (1 + stepS (os.take i)) (obAt os i))) := fun i hi => by
    obtain ⟨p, q, l, d, mm, e1, e2, e3, e4⟩ := hx.at (i := i) (by rw [upArena_length]; exact hi)
    rw [upArena_at 1 hi] at e3 e4
    exact ⟨p, q, l, d, mm, e1, e2, e3, e4⟩
  have HNL := hid_of hl
  have hn6 : os.length ≤ 1048576 := by omega
  have hne : ∀ x : Int, (x != x) = false := by simp
  clear hx hl
  go_enter Tryz.func36, Tryz.ntmps36
  go_wp2
  go_loop [1, 5] (fun q i => ∃ (k : Nat) (m : Int), k ≤ os.length ∧ i = .int .i64 k ∧ q = .int .i64 m ∧ Hid (m = 1 + stepS (os.take k))) (fun _ i => os.length - (intOf i).toNat)
  case atStart => exact ⟨0, _, Nat.zero_le _, rfl, rfl, by show _ = _; simp [stepS]⟩
  case round =>
    obtain ⟨k, m, hk, rfl, rfl, hm⟩ := hrel
    by_cases hlt : k < os.length
    · obtain ⟨p, q, l, d, mm, rfl, hq, hc, hu⟩ := HX.out k hlt
      rw [← hm.out] at hc hu
      have hsb := stepS_take_bound os k
      have hob2 := obAt_le os k
      have hmb : 0 ≤ m ∧ m ≤ 20000000 := by have h1 := hm.out; have h2 := HNL.out; omega
      have HMM : Hid (m + 1 + 1 + 1 + 1 + 1 + 1 + 1 + 1 + 1 + 1 + (((obAt os k).ls.length : Nat) : Int) + (((obAt os k).ds.length : Nat) : Int) + 2 * (((obAt os k).qs.length : Nat) : Int) = 1 + stepS (os.take (k + 1))) := by
        have e1 := stepS_take hlt
        have e2 := hm.out
        unfold stepN at e1
        show _ = _
        omega
      generalize obAt os k = o at hc hu hob2 HMM
      unfold obN at hob2
      have hnl := HNL.out
      have hb3 : (o.ls.length : Int) ≤ 1048576 ∧ (o.ds.length : Int) ≤ 1048576 ∧ (o.qs.length : Int) ≤ 1048576 := by omega
      have c0 : w.cell? q = some (.int .i64 (m)) := hc.c0
      have c1 : w.cell? ⟨q.block, q.off + 1, none⟩ = some (.int .i64 (m + 1)) := hc.c1
      have c2 : w.cell? ⟨q.block, q.off + 2, none⟩ = some (.int .i64 (m + 1 + 1)) := hc.c2
      have c3 : w.cell? ⟨q.block, q.off + 3, none⟩ = some (.int .i64 (m + 1 + 1 + 1)) := hc.c3
      have c4 : w.cell? ⟨q.block, q.off + 4, none⟩ = some (.int .i64 (m + 1 + 1 + 1 + 1)) := hc.c4
      have c5 : w.cell? ⟨q.block, q.off + 5, none⟩ = some (.int .i64 (m + 1 + 1 + 1 + 1 + 1)) := hc.c5
      have c6 : w.cell? ⟨q.block, q.off + 6, none⟩ = some (.int .i64 (m + 1 + 1 + 1 + 1 + 1 + 1)) := hc.c6
      have c7 : w.cell? ⟨q.block, q.off + 7, none⟩ = some (.int .i64 (m + 1 + 1 + 1 + 1 + 1 + 1 + 1)) := hc.c7
      have c8 : w.cell? ⟨q.block, q.off + 8, none⟩ = some (.int .i64 (m + 1 + 1 + 1 + 1 + 1 + 1 + 1 + 1)) := hc.c8
      obtain ⟨tb, htb⟩ : ∃ tb, tb = thirdB (m + 1 + 1 + 1 + 1 + 1 + 1 + 1 + 1 + 1) := ⟨_, rfl⟩
      have c9 : w.cell? ⟨q.block, q.off + 9, none⟩ = some (.bool tb) := by rw [htb]; exact hc.c9
      have ht : ((m + 1 + 1 + 1 + 1 + 1 + 1 + 1 + 1 + 1).tmod 3 == 0) = tb := htb.symm
      have ht2 : ((m + 1 + 1 + 1 + 1 + 1 + 1 + 1 + 1 + 1) % 3 == 0) = tb := by rw [← ht, Int.tmod_eq_emod_of_nonneg (by omega)]
      have htt : (tb != tb) = false := by simp
      have c10 := hc.c10
      have c11 := hc.c11
      have c12 := hc.c12
      have C1 := heldIntS_up l o.ls.length (m + 1 + 1 + 1 + 1 + 1 + 1 + 1 + 1 + 1 + 1) w hu.ls (by omega) (by omega) (by omega)
      have C2 := heldIntS_up d o.ds.length (m + 1 + 1 + 1 + 1 + 1 + 1 + 1 + 1 + 1 + 1 + o.ls.length) w hu.ds (by omega) (by omega) (by omega)
      have C3 := heldMsgS_up mm o.qs.length (m + 1 + 1 + 1 + 1 + 1 + 1 + 1 + 1 + 1 + 1 + o.ls.length + o.ds.length) w hu.qs (by omega) (by omega) (by omega)
      have hw0 : wrap64 (m + 1) = m + 1 := by unfold wrap64; omega
      have hw1 : wrap64 (m + 1 + 1) = m + 1 + 1 := by unfold wrap64; omega
      have hw2 : wrap64 (m + 1 + 1 + 1) = m + 1 + 1 + 1 := by unfold wrap64; omega
      have hw3 : wrap64 (m + 1 + 1 + 1 + 1) = m + 1 + 1 + 1 + 1 := by unfold wrap64; omega
      have hw4 : wrap64 (m + 1 + 1 + 1 + 1 + 1) = m + 1 + 1 + 1 + 1 + 1 := by unfold wrap64; omega
      have hw5 : wrap64 (m + 1 + 1 + 1 + 1 + 1 + 1) = m + 1 + 1 + 1 + 1 + 1 + 1 := by unfold wrap64; omega
      have hw6 : wrap64 (m + 1 + 1 + 1 + 1 + 1 + 1 + 1) = m + 1 + 1 + 1 + 1 + 1 + 1 + 1 := by unfold wrap64; omega
      have hw7 : wrap64 (m + 1 + 1 + 1 + 1 + 1 + 1 + 1 + 1) = m + 1 + 1 + 1 + 1 + 1 + 1 + 1 + 1 := by unfold wrap64; omega
      have hw8 : wrap64 (m + 1 + 1 + 1 + 1 + 1 + 1 + 1 + 1 + 1) = m + 1 + 1 + 1 + 1 + 1 + 1 + 1 + 1 + 1 := by unfold wrap64; omega
      have hw9 : wrap64 (m + 1 + 1 + 1 + 1 + 1 + 1 + 1 + 1 + 1 + 1) = m + 1 + 1 + 1 + 1 + 1 + 1 + 1 + 1 + 1 + 1 := by unfold wrap64; omega
      have n1 : ¬ (m + 1 + 1 + 1 + 1 + 1 + 1 + 1 + 1 + 1 + 1 + (o.ls.length : Int) < 0) := by omega
      have n2 : ¬ (m + 1 + 1 + 1 + 1 + 1 + 1 + 1 + 1 + 1 + 1 + (o.ls.length : Int) + (o.ds.length : Int) < 0) := by omega
      have n3 : ¬ (m + 1 + 1 + 1 + 1 + 1 + 1 + 1 + 1 + 1 + 1 + (o.ls.length : Int) + (o.ds.length : Int) + 2 * (o.qs.length : Int) < 0) := by omega
      clear hc hu hsb hob2 hnl htb hm
      go_wp2_with fail
      refine C1.mono ?_
      rintro e w1 ⟨rfl, rfl⟩
      clear C1
      go_wp2_with fail
      refine C2.mono ?_
      rintro e w1 ⟨rfl, rfl⟩
      clear C2
      go_wp2_with fail
      refine C3.mono ?_
      rintro e w1 ⟨rfl, rfl⟩
      clear C3
      go_wp2
      exact ⟨⟨k + 1, _, by omega, by go_num, rfl, HMM⟩, by simp [intOf]; omega⟩
    · have hke : k = os.length := by omega
      have HE : Hid (m = 1 + stepS os) := by
        have e := hm.out
        rw [hke, List.take_length] at e
        exact e
      clear hm hke
      go_wp2
      go_ret
      exact ⟨by rw [HE.out]; rfl, rfl⟩
end Go.Proofs.YtbdljoldblpffaaGreat
