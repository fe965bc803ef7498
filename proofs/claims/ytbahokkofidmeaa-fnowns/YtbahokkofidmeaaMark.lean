/-
  What the laws' own marks do: a row that a call owns is marked from its head on, and held against the marks.
-/
import Derived.Test.YtbahokkofidmeaaSame
namespace Go.Proofs.Ytbahokkofidmeaa
open Go.RowKit
set_option linter.unusedVariables false

/-- n numbers from k on. -/
def upFrom (k : Int) (n : Nat) : List Int := (List.range n).map fun (i : Nat) => k + (i : Int)
theorem upFrom_length (k : Int) (n : Nat) : (upFrom k n).length = n := by simp [upFrom]
theorem upFrom_getD (k : Int) (n i : Nat) (h : i < n) : (upFrom k n).getD i 0 = k + (i : Int) := by simp [upFrom, List.getD, h]
/-- A row of ints at a block's head, and what is spare behind them. -/
def RowIn (w : World) (g : Nat) (xs : List Int) (rest : List Value) : Prop := w.heap[g]? = some (.cells (icells xs ++ rest).toArray 3 (0, 0))
theorem RowIn.cell {w : World} {g : Nat} {xs : List Int} {rest : List Value} (h : RowIn w g xs rest) (i : Nat) (hi : i < xs.length) : w.cell? ⟨g, i, none⟩ = some (.int .i64 (xs.getD i 0)) := by
  unfold RowIn at h
  simp only [World.cell?, h]
  have e : (icells xs ++ rest)[i]? = some (.int .i64 (xs.getD i 0)) := by
    rw [List.getElem?_append_left (by rw [icells_length]; exact hi)]
    simp [icells, hi]
  simpa using e
theorem RowIn.free {w : World} {g : Nat} {xs : List Int} {rest : List Value} (h : RowIn w g xs rest) (i : Nat) : w.frozen? ⟨g, i, none⟩ = false := by
  unfold RowIn at h
  simp [World.frozen?, h]
theorem RowIn.set {w : World} {g : Nat} {xs : List Int} {rest : List Value} (h : RowIn w g xs rest) (i : Nat) (hi : i < xs.length) (n : Int) : RowIn (w.setCell ⟨g, i, none⟩ (.int .i64 n)) g (xs.set i n) rest := by
  have := heap_setCell_same w g i _ 3 (.int .i64 n) h
  unfold RowIn
  rw [this, ← icells_set]
  simp
  rw [List.set_append_left _ _ (by rw [icells_length]; exact hi)]
theorem rowIn_own {w : World} {base : Nat} {v : Value} {xs : List Int} (h : w.ownsRow base 3 1 v xs.length (icells xs)) (hx : 0 < xs.length) : ∃ g cap rest, v = .slice (some ⟨g, 0, none⟩) xs.length cap ∧ base ≤ g ∧ xs.length ≤ cap ∧ cap ≤ maxLen ∧ (icells xs ++ rest).length = cap ∧ RowIn w g xs rest := by
  rcases h.2 with ⟨rfl, h0⟩ | ⟨g, cap, cur, rfl, hb, hg, hcap, hm, hs, htake⟩
  · omega
  · refine ⟨g, cap, cur.toList.drop xs.length, rfl, hb, hcap, hm, ?_, ?_⟩
    · have : (icells xs ++ cur.toList.drop xs.length) = cur.toList := by rw [← htake, Nat.mul_one, List.take_append_drop]
      rw [this]; simp [hs]
    · have : (icells xs ++ cur.toList.drop xs.length) = cur.toList := by rw [← htake, Nat.mul_one, List.take_append_drop]
      unfold RowIn
      rw [this]; simpa using hg
theorem RowIn.own {w : World} {g cap : Nat} {xs : List Int} {rest : List Value} (h : RowIn w g xs rest) (base : Nat) (hb : base ≤ g) (hc : xs.length ≤ cap) (hm : cap ≤ maxLen) (hl : (icells xs ++ rest).length = cap) : w.ownsRow base 3 1 (.slice (some ⟨g, 0, none⟩) xs.length cap) xs.length (icells xs) :=
  ⟨by simp [icells], .inr ⟨g, cap, (icells xs ++ rest).toArray, rfl, hb, h, hc, hm, by simp only [List.size_toArray, Nat.mul_one]; exact hl, by simp [icells]⟩⟩
/-- The row as it is marked as far as 'k'. -/
def markOf (xs : List Int) (k0 : Int) (k : Nat) : List Int := upFrom k0 k ++ xs.drop k
theorem markOf_start (xs : List Int) (k0 : Int) : markOf xs k0 0 = xs := by simp [markOf, upFrom]
theorem markOf_end (xs : List Int) (k0 : Int) : markOf xs k0 xs.length = upFrom k0 xs.length := by simp [markOf]
theorem markOf_length (xs : List Int) (k0 : Int) (k : Nat) (h : k ≤ xs.length) : (markOf xs k0 k).length = xs.length := by simp [markOf, upFrom]; omega
theorem markOf_set (xs : List Int) (k0 : Int) (k : Nat) (h : k < xs.length) : (markOf xs k0 k).set k (k0 + (k : Int)) = markOf xs k0 (k + 1) := by
  unfold markOf
  have e : upFrom k0 (k + 1) = upFrom k0 k ++ [k0 + (k : Int)] := by simp [upFrom, List.range_succ]
  rw [List.set_append_right _ _ (by rw [upFrom_length]; exact Nat.le_refl _), upFrom_length, Nat.sub_self, e, List.append_assoc, List.drop_eq_getElem_cons h, List.set_cons_zero]
  rfl
theorem grownBy_set (w : World) (g i : Nat) (v : Value) : w.grownBy (w.setCell ⟨g, i, none⟩ v) (some g) :=
  ⟨rfl, rfl, rfl, by simp, fun k hk hne => Below.heap_setCell w ⟨g, i, none⟩ v k (by simpa using hne)⟩
theorem grownBy_trans {w w1 w2 : World} {row : Option Nat} (h1 : w.grownBy w1 row) (h2 : w1.grownBy w2 row) : w.grownBy w2 row := by
  obtain ⟨a1, b1, c1, d1, e1⟩ := h1
  obtain ⟨a2, b2, c2, d2, e2⟩ := h2
  exact ⟨a2.trans a1, b2.trans b1, c2.trans c1, Nat.le_trans d1 d2, fun k hk hne => (e2 k (by omega) hne).trans (e1 k hk hne)⟩

set_option maxHeartbeats 400000 in
theorem markIntS_row (g cap : Nat) (xs : List Int) (rest : List Value) (k0 : Int) (w : World) (hr : RowIn w g xs rest) (hc : xs.length ≤ cap) (hn : xs.length ≤ 1048576) (h0 : 0 ≤ k0) (h1 : k0 ≤ 1099511627776) :
    Calls Try.prog 29 #[.slice (some ⟨g, 0, none⟩) xs.length cap, .int .i64 k0] w fun e w' => e = .returned (.int .i64 (k0 + xs.length)) ∧ RowIn w' g (upFrom k0 xs.length) rest ∧ w.grownBy w' (some g) := by
  have HR : Hid (RowIn w g (markOf xs k0 0) rest) := by rw [markOf_start]; exact hr
  clear hr
  go_enter Try.func29, Try.ntmps29
  go_wp2
  go_loopw [1, 5] (fun q i wr => ∃ k : Nat, k ≤ xs.length ∧ i = .int .i64 k ∧ q = .int .i64 (k0 + (k : Int)) ∧ Hid (RowIn wr g (markOf xs k0 k) rest) ∧ Hid (w.grownBy wr (some g))) (fun _ i _ => xs.length - (intOf i).toNat)
  case atStart => exact ⟨0, Nat.zero_le _, rfl, by simp, HR, World.grownBy.refl _ _⟩
  case round =>
    obtain ⟨k, hk, rfl, rfl, hrow, hgr⟩ := hrel
    clear HR
    by_cases hlt : k < xs.length
    · have hc2 := hrow.out.cell k (by rw [markOf_length _ _ _ hk]; exact hlt)
      have hf2 := hrow.out.free k
      have hrow' : Hid (RowIn (wr.setCell ⟨g, k, none⟩ (.int .i64 (k0 + (k : Int)))) g (markOf xs k0 (k + 1)) rest) := by
        show RowIn _ _ _ _
        rw [← markOf_set xs k0 k hlt]; exact hrow.out.set k (by rw [markOf_length _ _ _ hk]; exact hlt) _
      have hgr' : Hid (w.grownBy (wr.setCell ⟨g, k, none⟩ (.int .i64 (k0 + (k : Int)))) (some g)) := grownBy_trans hgr.out (grownBy_set wr g k _)
      have hw : wrap64 (k0 + (k : Int) + 1) = k0 + (k : Int) + 1 := by unfold wrap64; omega
      clear hrow hgr
      go_wp2
      go_roundw
      case rel => exact ⟨k + 1, by omega, by go_num, by rw [show k0 + ((k + 1 : Nat) : Int) = k0 + (k : Int) + 1 by omega], hrow', hgr'⟩
      case measure => simp [intOf]; omega
    · obtain rfl : k = xs.length := by omega
      have hend : Hid (RowIn wr g (upFrom k0 xs.length) rest) := by have := hrow.out; rw [markOf_end] at this; exact this
      clear hrow
      go_wp2
      go_ret
      exact ⟨rfl, hend.out, hgr.out⟩

set_option maxHeartbeats 400000 in
theorem heldIntS_up (v : Value) (n : Nat) (k0 : Int) (w : World) (hx : IsInts w v (upFrom k0 n)) (hn : n ≤ 1048576) (h0 : 0 ≤ k0) (h1 : k0 ≤ 1099511627776) :
    Calls Try.prog 31 #[v, .int .i64 k0] w fun e w' => e = .returned (.int .i64 (k0 + n)) ∧ w = w' := by
  obtain ⟨a, cap, rfl, hcap, hx⟩ := hx
  rw [upFrom_length] at hcap hx ⊢
  have HX : Hid (∀ i, i < n → ∃ p, a = some p ∧ w.cell? (p.add i) = some (.int .i64 ((upFrom k0 n).getD i 0))) := hx
  clear hx
  go_enter Try.func31, Try.ntmps31
  go_wp2
  go_loop [1, 5] (fun q i => ∃ k : Nat, k ≤ n ∧ i = .int .i64 k ∧ q = .int .i64 (k0 + (k : Int))) (fun _ i => n - (intOf i).toNat)
  case atStart => exact ⟨0, Nat.zero_le _, rfl, by simp⟩
  case round =>
    obtain ⟨k, hk, rfl, rfl⟩ := hrel
    by_cases hlt : k < n
    · obtain ⟨p, rfl, hc⟩ := HX.out k hlt
      rw [upFrom_getD _ _ _ hlt] at hc
      have hw : wrap64 (k0 + (k : Int) + 1) = k0 + (k : Int) + 1 := by unfold wrap64; omega
      go_wp2
      exact ⟨⟨k + 1, by omega, by go_num, by rw [show k0 + ((k + 1 : Nat) : Int) = k0 + (k : Int) + 1 by omega]⟩, by simp [intOf]; omega⟩
    · obtain rfl : k = n := by omega
      go_wp2
      go_ret
      exact ⟨rfl, rfl⟩
end Go.Proofs.Ytbahokkofidmeaa
