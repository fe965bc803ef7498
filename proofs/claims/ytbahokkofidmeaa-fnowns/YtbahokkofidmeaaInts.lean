/-
  Slices of ints: what is read of one, and what the laws' own helpers do with them.
-/
import Derived.Test.YtbahokkofidmeaaRows
import Derived.WalkKit
import Derived.WalkSpells
import Derived.WalkLawsBesides
import Derived.Laws.IdiomStrings
import Derived.Laws.IdiomRangeMap
import Derived.Deep.OwnRows
import Derived.Outline
import Derived.ProofKit
namespace Go.Proofs.Ytbahokkofidmeaa
open Go.RowKit
set_option linter.unusedVariables false

theorem wrap64_id (n : Int) (h0 : 0 ≤ n) (h1 : n < 4611686018427387904) : wrap64 n = n := by unfold wrap64; omega
/-- The cells of a list of ints. -/
def icells (xs : List Int) : List Value := xs.map (Value.int .i64)
theorem icells_length (xs : List Int) : (icells xs).length = xs.length := by simp [icells]
theorem icells_append (a b : List Int) : icells (a ++ b) = icells a ++ icells b := by simp [icells]
/-- A slice of ints that reads as 'xs'. -/
def IsInts (w : World) (v : Value) (xs : List Int) : Prop :=
  ∃ (a : Option Addr) (cap : Nat), v = .slice a xs.length cap ∧ xs.length ≤ cap ∧ ∀ i, i < xs.length → ∃ p, a = some p ∧ w.cell? (p.add i) = some (.int .i64 (xs.getD i 0))
theorem IsInts.on {w w' : World} {v : Value} {xs : List Int} (h : IsInts w v xs) (hb : Below w.heap.size w w') : IsInts w' v xs := by
  obtain ⟨a, cap, hv, hc, hx⟩ := h
  refine ⟨a, cap, hv, hc, fun i hi => ?_⟩
  obtain ⟨p, hp, hcell⟩ := hx i hi
  exact ⟨p, hp, (hb.cell (World.block_lt_of_cell? w _ hcell)).trans hcell⟩
theorem add_head (g i : Nat) : (⟨g, 0, none⟩ : Addr).add i = ⟨g, i, none⟩ := by unfold Addr.add; split <;> simp_all
theorem isInts_own {w : World} {base : Nat} {v : Value} {xs : List Int} (h : w.ownsRow base 3 1 v xs.length (icells xs)) : IsInts w v xs := by
  rcases h.2 with ⟨rfl, h0⟩ | ⟨g, cap, cur, rfl, hb, hg, hcap, hm, hs, htake⟩
  · exact ⟨none, 0, by rw [h0], by omega, fun i hi => by omega⟩
  · refine ⟨some ⟨g, 0, none⟩, cap, rfl, hcap, fun i hi => ⟨_, rfl, ?_⟩⟩
    exact h.cells rfl i _ (by simp [icells, hi])

/-- What is left of a count when 'n' are taken; less than nought: -1. -/
def szOf (left : Int) (n : Nat) : Int := if (n : Int) ≤ left then left - n else -1
theorem szOf_yes {left : Int} {n : Nat} (h : (n : Int) ≤ left) : szOf left n = left - n := if_pos h
theorem szOf_no {left : Int} {n : Nat} (h : ¬ (n : Int) ≤ left) : szOf left n = -1 := if_neg h

set_option maxHeartbeats 400000 in
theorem szIntS_any (a : Option Addr) (n cap : Nat) (left : Int) (w : World) (h0 : 0 ≤ left) (h1 : left ≤ 1048576) (hn : n ≤ 140737488355328) :
    Calls Try.prog 53 #[.slice a n cap, .int .i64 left] w fun e w' => e = .returned (.int .i64 (szOf left n)) ∧ w = w' := by
  by_cases h : (n : Int) ≤ left
  · rw [szOf_yes h]
    have hw : wrap64 (left - n) = left - n := by unfold wrap64; omega
    go_enter Try.func53, Try.ntmps53
    go_wp2
    go_ret
    exact ⟨rfl, rfl⟩
  · rw [szOf_no h]
    have hw : wrap64 (left - n) = left - n := by unfold wrap64; omega
    go_enter Try.func53, Try.ntmps53
    go_wp2
    go_ret
    exact ⟨rfl, rfl⟩

set_option maxHeartbeats 400000 in
theorem szLabel_any (a : Option Addr) (n cap : Nat) (left : Int) (w : World) (h0 : 0 ≤ left) (h1 : left ≤ 1048576) (hn : n ≤ 140737488355328) :
    Calls Try.prog 25 #[.agg #[.slice a n cap], .int .i64 left] w fun e w' => e = .returned (.int .i64 (szOf left n)) ∧ Below w.heap.size w w' := by
  have C := fun w => szIntS_any a n cap left w h0 h1 hn
  by_cases h : (n : Int) ≤ left
  · rw [szOf_yes h] at C ⊢
    have hb : Below w.heap.size w (w.alloc (.cells #[.slice a n cap] 44 (0, 0))) := (Below.refl _ _).alloc (Nat.le_refl _) _
    go_enter Try.func25, Try.ntmps25
    go_wp2_with (go_at_call 53; refine (C _).mono ?_; rintro e w' ⟨rfl, rfl⟩)
    go_ret
    exact ⟨rfl, hb⟩
  · rw [szOf_no h] at C ⊢
    have hb : Below w.heap.size w (w.alloc (.cells #[.slice a n cap] 44 (0, 0))) := (Below.refl _ _).alloc (Nat.le_refl _) _
    go_enter Try.func25, Try.ntmps25
    go_wp2_with (go_at_call 53; refine (C _).mono ?_; rintro e w' ⟨rfl, rfl⟩)
    go_ret
    exact ⟨rfl, hb⟩

theorem info3 : (Try.prog.info? 3).map (fun i => (i.zero, i.size, i.bytes)) = some (some (.int .i64 0), 1, 8) := by kernel_rfl
/-- A row of ints that is filled from its head on: 'xs' as far as 'k', then noughts. -/
def fillOf (xs : List Int) (k : Nat) : List Int := xs.take k ++ List.replicate (xs.length - k) 0
theorem fillOf_start (xs : List Int) : fillOf xs 0 = List.replicate xs.length 0 := by simp [fillOf]
theorem fillOf_end (xs : List Int) : fillOf xs xs.length = xs := by simp [fillOf]
theorem fillOf_length (xs : List Int) (k : Nat) (h : k ≤ xs.length) : (fillOf xs k).length = xs.length := by simp [fillOf]; omega
theorem fillOf_set (xs : List Int) (k : Nat) (h : k < xs.length) : (fillOf xs k).set k (xs.getD k 0) = fillOf xs (k + 1) := by
  unfold fillOf
  rw [show xs.length - k = (xs.length - (k + 1)) + 1 by omega, List.replicate_succ, List.set_append_right _ _ (by simp; omega)]
  rw [show k - (xs.take k).length = 0 by simp; omega, List.set_cons_zero]
  rw [show xs.take (k + 1) = xs.take k ++ [xs.getD k 0] by rw [List.take_add_one, List.getElem?_eq_getElem h]; simp [h]]
  rw [List.append_assoc]
  rfl
theorem icells_set (xs : List Int) (k : Nat) (n : Int) : (icells xs).set k (.int .i64 n) = icells (xs.set k n) := by simp [icells, List.map_set]
/-- 'make([]int, n)'. -/
theorem make_ints (n : Nat) (h : n ≤ 17592186044416) (w : World) :
    (Instr.makeSlice 24 (.int .i64 (n : Int)) (.int .i64 (n : Int))).run Try.prog w = .ok (.slice (some ⟨w.heap.size, 0, none⟩) n n) (w.alloc (.cells (icells (List.replicate n 0)).toArray 3 (0, 0))) := by
  have h1 := run_make_row' (P := Try.prog) 24 3 (.int .i64 0) 8 Try.underlying24 info3 rfl .i64 .i64 n (by omega) (by omega) w
  have h2 : madeCells #[Value.int .i64 0] n = (icells (List.replicate n 0)).toArray := by
    apply Array.toList_inj.1
    rw [toList_madeCells_one]
    simp [icells]
  rw [h2] at h1
  exact h1
/-- A row of ints at a block's head. -/
def RowAt (w : World) (g : Nat) (xs : List Int) : Prop := w.heap[g]? = some (.cells (icells xs).toArray 3 (0, 0))
theorem RowAt.own {w : World} {g : Nat} {xs : List Int} (h : RowAt w g xs) (base : Nat) (hb : base ≤ g) (hm : xs.length ≤ maxLen) : w.ownsRow base 3 1 (.slice (some ⟨g, 0, none⟩) xs.length xs.length) xs.length (icells xs) :=
  ⟨by simp [icells], .inr ⟨g, xs.length, (icells xs).toArray, rfl, hb, h, Nat.le_refl _, hm, by simp [icells], by simp [icells, List.take_of_length_le]⟩⟩
theorem RowAt.cell {w : World} {g : Nat} {xs : List Int} (h : RowAt w g xs) (i : Nat) (hi : i < xs.length) : w.cell? ⟨g, i, none⟩ = some (.int .i64 (xs.getD i 0)) := by
  unfold RowAt at h
  simp only [World.cell?, h]
  simp [icells, hi]
theorem RowAt.free {w : World} {g : Nat} {xs : List Int} (h : RowAt w g xs) (i : Nat) : w.frozen? ⟨g, i, none⟩ = false := by
  unfold RowAt at h
  simp [World.frozen?, h]
theorem RowAt.set {w : World} {g : Nat} {xs : List Int} (h : RowAt w g xs) (i : Nat) (n : Int) : RowAt (w.setCell ⟨g, i, none⟩ (.int .i64 n)) g (xs.set i n) := by
  have := heap_setCell_same w g i _ 3 (.int .i64 n) h
  unfold RowAt
  rw [this, ← icells_set]
  simp

set_option maxHeartbeats 400000 in
theorem toIntS_any (v : Value) (xs : List Int) (w : World) (hx : IsInts w v xs) (hn : xs.length ≤ 1048576) :
    Calls Try.prog 23 #[v] w fun e w' => e = .returned (.slice (some ⟨w.heap.size, 0, none⟩) xs.length xs.length) ∧ RowAt w' w.heap.size xs ∧ Below w.heap.size w w' := by
  obtain ⟨a, cap, rfl, hcap, hx⟩ := hx
  have hm := make_ints xs.length (by omega) w
  have hs0 : RowAt (w.alloc (.cells (icells (List.replicate xs.length 0)).toArray 3 (0, 0))) w.heap.size (fillOf xs 0) := by rw [fillOf_start]; exact heap_alloc_new w _
  have hb0 : Below w.heap.size w (w.alloc (.cells (icells (List.replicate xs.length 0)).toArray 3 (0, 0))) := (Below.refl _ _).alloc (Nat.le_refl _) _
  obtain ⟨W, hW⟩ : ∃ W, W = w.alloc (.cells (icells (List.replicate xs.length 0)).toArray 3 (0, 0)) := ⟨_, rfl⟩
  rw [← hW] at hm hs0 hb0
  have HX : Hid (∀ i, i < xs.length → ∃ p, a = some p ∧ w.cell? (p.add i) = some (.int .i64 (xs.getD i 0))) := hx
  have HS : Hid (RowAt W w.heap.size (fillOf xs 0)) := hs0
  obtain ⟨g, hg⟩ : ∃ g, g = w.heap.size := ⟨_, rfl⟩
  have HG : Hid (g = w.heap.size) := hg
  rw [← hg] at hm HS hb0 ⊢
  clear hx hs0 hW hg
  go_enter Try.func23, Try.ntmps23
  go_wp2
  go_loopw [4] (fun i wr => ∃ k : Nat, k ≤ xs.length ∧ i = .int .i64 k ∧ Hid (RowAt wr g (fillOf xs k)) ∧ Below g w wr) (fun i _ => xs.length - (intOf i).toNat)
  case atStart => exact ⟨0, Nat.zero_le _, rfl, HS, hb0⟩
  case round =>
    obtain ⟨k, hk, rfl, hrow, hnx⟩ := hrel
    clear HS hb0 hm
    by_cases hlt : k < xs.length
    · obtain ⟨p, rfl, hcell⟩ := HX.out k hlt
      have hc1 : wr.cell? (p.add k) = some (.int .i64 (xs.getD k 0)) := (hnx.cell (by rw [HG.out]; exact World.block_lt_of_cell? w _ hcell)).trans hcell
      have hc2 := hrow.out.cell k (by rw [fillOf_length _ _ hk]; exact hlt)
      have hf2 := hrow.out.free k
      have hrow' : Hid (RowAt (wr.setCell ⟨g, k, none⟩ (.int .i64 (xs.getD k 0))) g (fillOf xs (k + 1))) := by
        show RowAt _ _ _
        rw [← fillOf_set xs k hlt]; exact hrow.out.set k _
      have hnx' := hnx.setCell (p := ⟨g, k, none⟩) (Nat.le_refl _) (.int .i64 (xs.getD k 0))
      obtain ⟨x, hx⟩ : ∃ x, x = xs.getD k 0 := ⟨_, rfl⟩
      rw [← hx] at hc1 hrow' hnx'
      clear hcell hx
      go_wp2
      go_roundw
      case rel => exact ⟨k + 1, by omega, by go_num, hrow', hnx'⟩
      case measure => simp [intOf]; omega
    · obtain rfl : k = xs.length := by omega
      have hend : Hid (RowAt wr g xs) := by have := hrow.out; rw [fillOf_end] at this; exact this
      go_wp2
      go_ret
      exact ⟨rfl, hend.out, hnx⟩
end Go.Proofs.Ytbahokkofidmeaa
