/-
  Lists of Bools: made, held against each other, marked, and found so.
-/
import Derived.Test.YtbdljoldblpffaaGreatMarkA
namespace Go.Proofs.YtbdljoldblpffaaGreat
open Go.RowKit
set_option linter.unusedVariables false
set_option maxRecDepth 100000

def blcells (xs : List Bool) : List Value := xs.map Value.bool
theorem blcells_length (xs : List Bool) : (blcells xs).length = xs.length := by simp [blcells]
/-- A slice of Bools that reads as 'xs'. -/
def IsBools (w : World) (v : Value) (xs : List Bool) : Prop :=
  ∃ (a : Option Addr) (cap : Nat), v = .slice a xs.length cap ∧ xs.length ≤ cap ∧ ∀ i, i < xs.length → ∃ p, a = some p ∧ w.cell? (p.add i) = some (.bool (xs.getD i false))
theorem IsBools.on {w w' : World} {v : Value} {xs : List Bool} (h : IsBools w v xs) (hb : Below w.heap.size w w') : IsBools w' v xs := by
  obtain ⟨a, cap, hv, hc, hx⟩ := h
  exact ⟨a, cap, hv, hc, fun i hi => by obtain ⟨p, hp, hq⟩ := hx i hi; exact ⟨p, hp, (hb.cell (World.block_lt_of_cell? w _ hq)).trans hq⟩⟩
def BolIn (w : World) (g : Nat) (xs : List Bool) : Prop := w.heap[g]? = some (.cells (blcells xs).toArray 4 (0, 0))
theorem BolIn.cell {w : World} {g : Nat} {xs : List Bool} (h : BolIn w g xs) (i : Nat) (hi : i < xs.length) : w.cell? ⟨g, i, none⟩ = some (.bool (xs.getD i false)) := by
  unfold BolIn at h
  simp only [World.cell?, h, List.getElem?_toArray]
  simp [blcells, List.getD, hi]
theorem BolIn.free {w : World} {g : Nat} {xs : List Bool} (h : BolIn w g xs) (i : Nat) : w.frozen? ⟨g, i, none⟩ = false := by
  unfold BolIn at h
  simp [World.frozen?, h]
theorem BolIn.set {w : World} {g : Nat} {xs : List Bool} (h : BolIn w g xs) (i : Nat) (b : Bool) : BolIn (w.setCell ⟨g, i, none⟩ (.bool b)) g (xs.set i b) := by
  have e := heap_setCell_same w g i _ 4 (.bool b) h
  unfold BolIn
  rw [e]
  simp [blcells, List.map_set]
theorem BolIn.on {w w' : World} {g : Nat} {xs : List Bool} (h : BolIn w g xs) (hb : Below w.heap.size w w') : BolIn w' g xs := keep h hb
theorem BolIn.bools {w : World} {g : Nat} {xs : List Bool} (h : BolIn w g xs) (n cap : Nat) (hn : n = xs.length) (hc : n ≤ cap) : IsBools w (.slice (some ⟨g, 0, none⟩) n cap) xs :=
  ⟨_, _, by rw [hn], by rw [← hn]; exact hc, fun i hi => ⟨_, rfl, by rw [add_head]; exact h.cell i hi⟩⟩
theorem info4 : (Tryz.prog.info? 4).map (fun i => (i.zero, i.size, i.bytes)) = some (some (.bool false), 1, 1) := by kernel_rfl
theorem made_bools (n : Nat) : (madeCells #[Value.bool false] n).toList = blcells (List.replicate n false) := by
  induction n with
  | zero => simp [madeCells, blcells]
  | succ n ih =>
    have h1 : (madeCells #[Value.bool false] (n + 1)).toList = (madeCells #[Value.bool false] n).toList ++ [.bool false] := by
      unfold madeCells
      simp [Array.range_succ, Nat.mod_one]
    rw [h1, ih, List.replicate_succ']
    simp [blcells]
theorem make_bools (n : Nat) (h : n ≤ 4398046511104) (w : World) :
    (Instr.makeSlice 66 (.int .i64 (n : Int)) (.int .i64 (n : Int))).run Tryz.prog w = .ok (.slice (some ⟨w.heap.size, 0, none⟩) n n) (w.alloc (.cells (blcells (List.replicate n false)).toArray 4 (0, 0))) := by
  obtain ⟨i, hi, hzz⟩ := Option.map_eq_some_iff.1 info4
  simp only [Prod.mk.injEq] at hzz
  obtain ⟨hz, hs, hb⟩ := hzz
  have hr := run_make (P := Tryz.prog) w 66 4 i _ Tryz.underlying66 hi hz .i64 .i64 n n (by omega) (Int.le_refl _) (by rw [hb]; omega) (by omega)
  simp only [Int.toNat_natCast, hs, Nat.mul_one] at hr
  have h2 : madeCells (Value.bool false).cells n = (blcells (List.replicate n false)).toArray := by
    apply Array.toList_inj.1
    exact made_bools n
  rw [h2] at hr
  exact hr
def upB (k : Int) (n : Nat) : List Bool := (List.range n).map fun (i : Nat) => thirdB (k + (i : Int))
theorem upB_length (k : Int) (n : Nat) : (upB k n).length = n := by simp [upB]
theorem upB_getD (k : Int) (n i : Nat) (h : i < n) : (upB k n).getD i false = thirdB (k + (i : Int)) := by simp [upB, List.getD, h]
def markBo (xs : List Bool) (k0 : Int) (k : Nat) : List Bool := upB k0 k ++ xs.drop k
theorem markBo_start (xs : List Bool) (k0 : Int) : markBo xs k0 0 = xs := by simp [markBo, upB]
theorem markBo_end (xs : List Bool) (k0 : Int) : markBo xs k0 xs.length = upB k0 xs.length := by simp [markBo]
theorem markBo_length (xs : List Bool) (k0 : Int) (k : Nat) (h : k ≤ xs.length) : (markBo xs k0 k).length = xs.length := by simp [markBo, upB]; omega
theorem markBo_set (xs : List Bool) (k0 : Int) (k : Nat) (h : k < xs.length) : (markBo xs k0 k).set k (thirdB (k0 + (k : Int))) = markBo xs k0 (k + 1) := by
  unfold markBo
  have e : upB k0 (k + 1) = upB k0 k ++ [thirdB (k0 + (k : Int))] := by simp [upB, List.range_succ]
  rw [List.set_append_right _ _ (by rw [upB_length]; exact Nat.le_refl _), upB_length, Nat.sub_self, e, List.append_assoc, List.drop_eq_getElem_cons h, List.set_cons_zero]
  rfl
end Go.Proofs.YtbdljoldblpffaaGreat
