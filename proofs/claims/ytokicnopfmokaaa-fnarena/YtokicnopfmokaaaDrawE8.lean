/-
  The draws, of which only this is told: they answer, and leave the cursor right.
-/
import Derived.Test.YtokicnopfmokaaaDraw28
import Derived.Deep.RegionLaw
namespace Go.Proofs.Ytokicnopfmokaaa
open Go.RowKit
set_option linter.unusedVariables false
set_option maxRecDepth 100000

/-- A cursor that is right; it and its code lie below s. -/
def CurE (w : World) (g s : Nat) : Prop :=
  ∃ a len cap cb p, Cur w g a len cap cb p ∧ g < s ∧ ∀ b off, 0 < len → a = some ⟨b, off, none⟩ → b < s
theorem CurE.keep {w w' : World} {g s : Nat} (h : CurE w g s) (hk : ∀ k, k < s → w'.heap[k]? = w.heap[k]?) : CurE w' g s := by
  obtain ⟨a, len, cap, cb, p, hc, hg, hb⟩ := h
  refine ⟨a, len, cap, cb, p, ⟨⟨hc.code.small, hc.code.byte, fun i hi => ?_⟩, hc.le, ?_⟩, hg, hb⟩
  · obtain ⟨b, off, ha, hne, hcell⟩ := hc.code.cell i hi
    refine ⟨b, off, ha, hne, ?_⟩
    have := hk b (hb b off (by omega) ha)
    simp only [World.cell?, this] at hcell ⊢
    exact hcell
  · rw [hk g hg]; exact hc.obj
theorem CurE.below {w w' : World} {g s : Nat} (h : CurE w g s) (hb : Below s w w') : CurE w' g s := h.keep fun k hk => hb.block k hk
theorem CurE.drew {w : World} {g s : Nat} (h : CurE w g s) : CurE w.drew g s := h.keep fun k _ => rfl
theorem CurE.alloc {w : World} {g s : Nat} (h : CurE w g s) (o : Obj) (hs : s ≤ w.heap.size) : CurE (w.alloc o) g s := h.below ((Below.refl _ _).alloc hs _)
theorem CurE.set {w : World} {g s : Nat} (h : CurE w g s) (B i : Nat) (v : Value) (hB : s ≤ B) : CurE (w.setCell ⟨B, i, none⟩ v) g s := h.below ((Below.refl _ _).setCell hB _)
theorem curE_wide {w : World} {g s s' : Nat} (h : CurE w g s) (hs : s ≤ s') : CurE w g s' := by
  obtain ⟨a, len, cap, cb, p, hc, hg, hb⟩ := h
  exact ⟨a, len, cap, cb, p, hc, by omega, fun b off h1 h2 => by have := hb b off h1 h2; omega⟩
theorem CurE.lt {w : World} {g s : Nat} (h : CurE w g s) : g < s := by
  obtain ⟨a, len, cap, cb, p, hc, hg, hb⟩ := h
  exact hg
theorem belowE (w : World) (g s n : Nat) (h : CurE w g s) (h0 : 0 < n) (hn : n ≤ 4294967296) :
    Calls Try.prog 28 #[.pointer (some ⟨g, 0, none⟩), .int .i64 n] w fun e w' => ∃ v : Nat, e = .returned (.int .i64 (v : Int)) ∧ v < n ∧ CurE w' g s ∧ w.grownBy w' (some g) := by
  obtain ⟨a, len, cap, cb, p, hc, hg, hb⟩ := h
  refine (below_any w g len cap n a cb p hc h0 hn).mono ?_
  rintro e w' ⟨rfl, hc', hgr⟩
  exact ⟨_, rfl, belowV_lt len cb n p h0, ⟨a, len, cap, cb, _, hc', hg, hb⟩, hgr⟩
theorem onceE (w : World) (g s n : Nat) (h : CurE w g s) (h0 : 0 < n) (hn : n ≤ 4294967296) :
    Calls Try.prog 16 #[.pointer (some ⟨g, 0, none⟩), .int .i64 n] w fun e w' => ∃ v : Bool, e = .returned (.bool v) ∧ CurE w' g s ∧ w.grownBy w' (some g) := by
  obtain ⟨a, len, cap, cb, p, hc, hg, hb⟩ := h
  refine (once_any w g len cap n a cb p hc h0 hn).mono ?_
  rintro e w' ⟨rfl, hc', hgr⟩
  exact ⟨_, rfl, ⟨a, len, cap, cb, _, hc', hg, hb⟩, hgr⟩
theorem pickE (w : World) (g s m : Nat) (ns : List Int) (n : Nat) (hn : ns.length = n) (h0 : 0 < n) (hn2 : n ≤ 256) (h : CurE w g s) (hm : s ≤ m) (hl : w.heap[m]? = some (.cells (ns.map (Value.int .i64)).toArray 3 (0, 0))) :
    Calls Try.prog 37 #[.pointer (some ⟨g, 0, none⟩), .slice (some ⟨m, 0, none⟩) n n] w fun e w' => ∃ v : Int, e = .returned (.int .i64 v) ∧ CurE w' g s ∧ w.grownBy w' (some g) := by
  obtain ⟨a, len, cap, cb, p, hc, hg, hb⟩ := h
  refine (pick_any w g m len cap a cb p ns n hn h0 hn2 hc (by omega) hl).mono ?_
  rintro e w' ⟨rfl, hc', hgr⟩
  exact ⟨_, rfl, ⟨a, len, cap, cb, _, hc', hg, hb⟩, hgr⟩
theorem newE (w : World) (a : Option Addr) (len cap : Nat) (cb : Nat → Nat) (hc : Code0 w a len cb) :
    Calls Try.prog 14 #[.slice a len cap] w fun e w' => e = .returned (.pointer (some ⟨w.heap.size, 0, none⟩)) ∧ CurE w' w.heap.size w'.heap.size ∧ Below w.heap.size w w' := by
  refine (new_any w a len cap cb hc).mono ?_
  rintro e w' ⟨rfl, hc', hb⟩
  refine ⟨rfl, ⟨a, len, cap, cb, _, hc', lt_of_block hc'.obj, fun b off h0 ha => ?_⟩, hb⟩
  obtain ⟨b', off', ha', hne, hcell⟩ := hc'.code.cell 0 h0
  rw [ha] at ha'
  simp at ha'
  have := World.block_lt_of_cell? w' _ hcell
  simp at this
  omega

/-- A call of l1Below inside a region that draws. -/
theorem step_below {ops : Array Oper} {o : Oper} {a : Act} {w : World} {K : Act → World → Prop} {Q : Exit → Act → World → Prop} {E : Prop} (hgd : o.guard = none) (x : Operand) (n : Nat)
    (ho : o.op = .call { callee := .value (.func 28), args := #[x, .const (.int .i64 n)], argTypes := #[41, 3] }) (g s : Nat) (hx : a.eval x = .pointer (some ⟨g, 0, none⟩)) (hc : CurE w g s) (h0 : 0 < n) (hn : n ≤ 256)
    (hK : ∀ (v : Nat) w', v < n → Hid (CurE w' g s) → Hid (w.grownBy w' (some g)) → K (a.put o.dst (.int .i64 (v : Int))) w') : if Region.wanted o (yielded ops a.tmps) = true then Oper.wp Try.prog o a w K Q else E := by
  have hw : Region.wanted o (yielded ops a.tmps) = true := by simp [Region.wanted, hgd]
  rw [if_pos hw]
  have h := belowE w g s n hc h0 (by omega)
  unfold Oper.wp
  simp [execOp, ho, resolve, hx, Result.andThen]
  go_simp
  refine h.mono ?_
  rintro e w' ⟨v, rfl, hv, hc', hgr⟩
  exact hK v w' hv hc' hgr
end Go.Proofs.Ytokicnopfmokaaa
