/-
  Lists of Bools: made, held against each other, marked, and found so.
-/
import Derived.Test.YtglpfgachcoheaaMarkA
namespace Go.Proofs.Ytglpfgachcoheaa
open Go.RowKit
set_option linter.unusedVariables false
set_option maxRecDepth 100000

def bcells (xs : List Bool) : List Value := xs.map Value.bool
theorem bcells_length (xs : List Bool) : (bcells xs).length = xs.length := by simp [bcells]
/-- A slice of Bools that reads as 'xs'. -/
def IsBools (w : World) (v : Value) (xs : List Bool) : Prop :=
  ∃ (a : Option Addr) (cap : Nat), v = .slice a xs.length cap ∧ xs.length ≤ cap ∧ ∀ i, i < xs.length → ∃ p, a = some p ∧ w.cell? (p.add i) = some (.bool (xs.getD i false))
theorem IsBools.on {w w' : World} {v : Value} {xs : List Bool} (h : IsBools w v xs) (hb : Below w.heap.size w w') : IsBools w' v xs := by
  obtain ⟨a, cap, hv, hc, hx⟩ := h
  exact ⟨a, cap, hv, hc, fun i hi => by obtain ⟨p, hp, hq⟩ := hx i hi; exact ⟨p, hp, (hb.cell (World.block_lt_of_cell? w _ hq)).trans hq⟩⟩
def BolIn (w : World) (g : Nat) (xs : List Bool) : Prop := w.heap[g]? = some (.cells (bcells xs).toArray 4 (0, 0))
theorem BolIn.cell {w : World} {g : Nat} {xs : List Bool} (h : BolIn w g xs) (i : Nat) (hi : i < xs.length) : w.cell? ⟨g, i, none⟩ = some (.bool (xs.getD i false)) := by
  unfold BolIn at h
  simp only [World.cell?, h, List.getElem?_toArray]
  simp [bcells, List.getD, hi]
theorem BolIn.free {w : World} {g : Nat} {xs : List Bool} (h : BolIn w g xs) (i : Nat) : w.frozen? ⟨g, i, none⟩ = false := by
  unfold BolIn at h
  simp [World.frozen?, h]
theorem BolIn.set {w : World} {g : Nat} {xs : List Bool} (h : BolIn w g xs) (i : Nat) (b : Bool) : BolIn (w.setCell ⟨g, i, none⟩ (.bool b)) g (xs.set i b) := by
  have e := heap_setCell_same w g i _ 4 (.bool b) h
  unfold BolIn
  rw [e]
  simp [bcells, List.map_set]
theorem BolIn.on {w w' : World} {g : Nat} {xs : List Bool} (h : BolIn w g xs) (hb : Below w.heap.size w w') : BolIn w' g xs := keep h hb
theorem BolIn.bools {w : World} {g : Nat} {xs : List Bool} (h : BolIn w g xs) (n cap : Nat) (hn : n = xs.length) (hc : n ≤ cap) : IsBools w (.slice (some ⟨g, 0, none⟩) n cap) xs :=
  ⟨_, _, by rw [hn], by rw [← hn]; exact hc, fun i hi => ⟨_, rfl, by rw [add_head]; exact h.cell i hi⟩⟩
theorem info4 : (Try.prog.info? 4).map (fun i => (i.zero, i.size, i.bytes)) = some (some (.bool false), 1, 1) := by kernel_rfl
theorem made_bools (n : Nat) : (madeCells #[Value.bool false] n).toList = bcells (List.replicate n false) := by
  induction n with
  | zero => simp [madeCells, bcells]
  | succ n ih =>
    have h1 : (madeCells #[Value.bool false] (n + 1)).toList = (madeCells #[Value.bool false] n).toList ++ [.bool false] := by
      unfold madeCells
      simp [Array.range_succ, Nat.mod_one]
    rw [h1, ih, List.replicate_succ']
    simp [bcells]
theorem make_bools (n : Nat) (h : n ≤ 4398046511104) (w : World) :
    (Instr.makeSlice 50 (.int .i64 (n : Int)) (.int .i64 (n : Int))).run Try.prog w = .ok (.slice (some ⟨w.heap.size, 0, none⟩) n n) (w.alloc (.cells (bcells (List.replicate n false)).toArray 4 (0, 0))) := by
  obtain ⟨i, hi, hzz⟩ := Option.map_eq_some_iff.1 info4
  simp only [Prod.mk.injEq] at hzz
  obtain ⟨hz, hs, hb⟩ := hzz
  have hr := run_make (P := Try.prog) w 50 4 i _ Try.underlying50 hi hz .i64 .i64 n n (by omega) (Int.le_refl _) (by rw [hb]; omega) (by omega)
  simp only [Int.toNat_natCast, hs, Nat.mul_one] at hr
  have h2 : madeCells (Value.bool false).cells n = (bcells (List.replicate n false)).toArray := by
    apply Array.toList_inj.1
    exact made_bools n
  rw [h2] at hr
  exact hr
set_option maxHeartbeats 1000000 in
theorem eqBoolS_same (v u : Value) (xs : List Bool) (w : World) (hx : IsBools w v xs) (hy : IsBools w u xs) (hn : xs.length ≤ 1048576) :
    Calls Try.prog 31 #[v, u] w fun e w' => e = .returned (.bool true) ∧ Below w.heap.size w w' := by
  obtain ⟨a, cap, rfl, hcap, hx⟩ := hx
  obtain ⟨b, cap2, rfl, hcap2, hy⟩ := hy
  have HX : Hid (∀ i, i < xs.length → ∃ p, a = some p ∧ w.cell? (p.add i) = some (.bool (xs.getD i false))) := hx
  have HY : Hid (∀ i, i < xs.length → ∃ p, b = some p ∧ w.cell? (p.add i) = some (.bool (xs.getD i false))) := hy
  clear hx hy
  have hnn : ((xs.length : Int) != (xs.length : Int)) = false := by simp
  go_enter Try.func31, Try.ntmps31
  go_wp2
  go_loopw [5] (fun i wr => ∃ k : Nat, k ≤ xs.length ∧ i = .int .i64 k ∧ Below w.heap.size w wr) (fun i _ => xs.length - (intOf i).toNat)
  case atStart => exact ⟨0, Nat.zero_le _, rfl, Below.refl _ _⟩
  case round =>
    obtain ⟨k, hk, rfl, hnx⟩ := hrel
    by_cases hlt : k < xs.length
    · obtain ⟨p, rfl, hc1⟩ := HX.out k hlt
      obtain ⟨q, rfl, hc2⟩ := HY.out k hlt
      have d1 : wr.cell? (p.add k) = some (.bool (xs.getD k false)) := (hnx.cell (World.block_lt_of_cell? w _ hc1)).trans hc1
      have d2 : wr.cell? (q.add k) = some (.bool (xs.getD k false)) := (hnx.cell (World.block_lt_of_cell? w _ hc2)).trans hc2
      generalize xs.getD k false = x at d1 d2
      have hne : (x != x) = false := by simp
      clear hc1 hc2
      go_wp2
      go_quiet (fail)
      go_wp2
      go_roundw
      case rel => exact ⟨k + 1, by omega, by go_num, below_drewN hnx _⟩
      case measure => simp [intOf]; omega
    · obtain rfl : k = xs.length := by omega
      go_wp2
      go_ret
      exact ⟨rfl, hnx⟩
def upB (k : Int) (n : Nat) : List Bool := (List.range n).map fun (i : Nat) => thirdB (k + (i : Int))
theorem upB_length (k : Int) (n : Nat) : (upB k n).length = n := by simp [upB]
theorem upB_getD (k : Int) (n i : Nat) (h : i < n) : (upB k n).getD i false = thirdB (k + (i : Int)) := by simp [upB, List.getD, h]
def markBo (xs : List Bool) (k0 : Int) (k : Nat) : List Bool := upB k0 k ++ xs.drop k
theorem markBo_start (xs : List Bool) (k0 : Int) : markBo xs k0 0 = xs := by simp [markBo, upB]
theorem markBo_end (xs : List Bool) (k0 : Int) : markBo xs k0 xs.length = upB k0 xs.length := by simp [markBo]
theorem markBo_length (xs : List Bool) (k0 : Int) (k : Nat) (h : k ≤ xs.length) : (markBo xs k0 k).length = xs.length := by simp [markBo, upB]; omega
theorem markBo_set (xs : List Bool) (k0 : Int) (k : Nat) (h : k < xs.length) : (markBo xs k0 k).set k (thirdB (k0 + (k : Int))) = markBo xs k0 (k + 1) := by
  unfold markBo
  have e : upB k0 (k + 1) = upB k0 k ++ [thirdB (k0 + (k : Int))] := by simp [upB, List.range_succ]
  rw [List.set_append_right _ _ (by rw [upB_length]; exact Nat.le_refl _), upB_length, Nat.sub_self, e, List.append_assoc, List.drop_eq_getElem_cons h, List.set_cons_zero]
  rfl
set_option maxHeartbeats 1000000 in
theorem markBoolS_row (g cap n : Nat) (xs : List Bool) (k0 : Int) (w : World) (hr : BolIn w g xs) (hn' : n = xs.length) (hc : n ≤ cap) (hn : n ≤ 1048576) (h0 : 0 ≤ k0) (h1 : k0 ≤ 1099511627776) :
    Calls Try.prog 32 #[.slice (some ⟨g, 0, none⟩) n cap, .int .i64 k0] w fun e w' => e = .returned (.int .i64 (k0 + n)) ∧ BolIn w' g (upB k0 n) ∧ w.grownBy w' (some g) := by
  have HR : Hid (BolIn w g (markBo xs k0 0)) := by rw [markBo_start]; exact hr
  have HN : Hid (n = xs.length) := hn'
  clear hr hn'
  go_enter Try.func32, Try.ntmps32
  go_wp2
  go_loopw [1, 5] (fun q i wr => ∃ k : Nat, k ≤ n ∧ i = .int .i64 k ∧ q = .int .i64 (k0 + (k : Int)) ∧ Hid (BolIn wr g (markBo xs k0 k)) ∧ Hid (w.grownBy wr (some g))) (fun _ i _ => n - (intOf i).toNat)
  case atStart => exact ⟨0, Nat.zero_le _, rfl, by simp, HR, World.grownBy.refl _ _⟩
  case round =>
    obtain ⟨k, hk, rfl, rfl, hrow, hgr⟩ := hrel
    clear HR
    by_cases hlt : k < n
    · have hc2 := hrow.out.cell k (by rw [markBo_length _ _ _ (by rw [← HN.out]; exact hk), ← HN.out]; exact hlt)
      have hf2 := hrow.out.free k
      obtain ⟨tb, htb⟩ : ∃ tb, tb = thirdB (k0 + (k : Int)) := ⟨_, rfl⟩
      have ht : ((k0 + (k : Int)).tmod 3 == 0) = tb := htb.symm
      have ht2 : ((k0 + (k : Int)) % 3 == 0) = tb := by rw [← ht, Int.tmod_eq_emod_of_nonneg (by omega)]
      have hrow' : Hid (BolIn (wr.setCell ⟨g, k, none⟩ (.bool tb)) g (markBo xs k0 (k + 1))) := by
        show BolIn _ _ _
        rw [htb, ← markBo_set xs k0 k (by rw [← HN.out]; exact hlt)]; exact hrow.out.set k _
      have hgr' : Hid (w.grownBy (wr.setCell ⟨g, k, none⟩ (.bool tb)) (some g)) := grownBy_trans hgr.out (grownBy_set wr g k _)
      have hw : wrap64 (k0 + (k : Int) + 1) = k0 + (k : Int) + 1 := by unfold wrap64; omega
      clear hrow hgr htb
      go_wp2
      go_roundw
      case rel => exact ⟨k + 1, by omega, by go_num, by rw [show k0 + ((k + 1 : Nat) : Int) = k0 + (k : Int) + 1 by omega], hrow', hgr'⟩
      case measure => simp [intOf]; omega
    · obtain rfl : k = n := by omega
      have hend : Hid (BolIn wr g (upB k0 k)) := by have := hrow.out; rw [HN.out, markBo_end, ← HN.out] at this; exact this
      clear hrow
      go_wp2
      go_ret
      exact ⟨rfl, hend.out, hgr.out⟩
set_option maxHeartbeats 1000000 in
theorem heldBoolS_up (v : Value) (n : Nat) (k0 : Int) (w : World) (hx : IsBools w v (upB k0 n)) (hn : n ≤ 1048576) (h0 : 0 ≤ k0) (h1 : k0 ≤ 1099511627776) :
    Calls Try.prog 33 #[v, .int .i64 k0] w fun e w' => e = .returned (.int .i64 (k0 + n)) ∧ w = w' := by
  obtain ⟨a, cap, rfl, hcap, hx⟩ := hx
  rw [upB_length] at hcap hx ⊢
  have HX : Hid (∀ i, i < n → ∃ p, a = some p ∧ w.cell? (p.add i) = some (.bool ((upB k0 n).getD i false))) := hx
  clear hx
  go_enter Try.func33, Try.ntmps33
  go_wp2
  go_loop [1, 5] (fun q i => ∃ k : Nat, k ≤ n ∧ i = .int .i64 k ∧ q = .int .i64 (k0 + (k : Int))) (fun _ i => n - (intOf i).toNat)
  case atStart => exact ⟨0, Nat.zero_le _, rfl, by simp⟩
  case round =>
    obtain ⟨k, hk, rfl, rfl⟩ := hrel
    by_cases hlt : k < n
    · obtain ⟨p, rfl, hc⟩ := HX.out k hlt
      rw [upB_getD _ _ _ hlt] at hc
      obtain ⟨tb, htb⟩ : ∃ tb, tb = thirdB (k0 + (k : Int)) := ⟨_, rfl⟩
      rw [← htb] at hc
      have ht : ((k0 + (k : Int)).tmod 3 == 0) = tb := htb.symm
      have ht2 : ((k0 + (k : Int)) % 3 == 0) = tb := by rw [← ht, Int.tmod_eq_emod_of_nonneg (by omega)]
      have hne : (tb != tb) = false := by simp
      have hw : wrap64 (k0 + (k : Int) + 1) = k0 + (k : Int) + 1 := by unfold wrap64; omega
      clear htb
      go_wp2
      exact ⟨⟨k + 1, by omega, by go_num, by rw [show k0 + ((k + 1 : Nat) : Int) = k0 + (k : Int) + 1 by omega]⟩, by simp [intOf]; omega⟩
    · obtain rfl : k = n := by omega
      go_wp2
      go_ret
      exact ⟨rfl, rfl⟩
end Go.Proofs.Ytglpfgachcoheaa
