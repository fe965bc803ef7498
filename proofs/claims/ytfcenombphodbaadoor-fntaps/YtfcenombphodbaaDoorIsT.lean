/-
  errors.Is where the target is an error of errors.New's make: at itself, and at nil.
-/
import Derived.Test.YtfcenombphodbaaDoorReadT
import Derived.LaidEql
import Derived.RowKitTokens
namespace Go.Proofs.YtfcenombphodbaaDoor
open Go.RowKit Go.Extern.Stop Go.Stop Go.Extern
set_option linter.unusedVariables false
set_option maxRecDepth 100000

theorem is_type (v : Value) (w : World) : (Extern.ReflectliteType.typeOf #[.iface 114 v]).run Tryd.prog w = .ok (.iface 104 (.agg #[.pointer (some ⟨1, 114, none⟩)])) w := by kernel_rfl
theorem is_compares (w : World) : ((Extern.ReflectliteType.method fun t => do Go.Extern.Rtype.noPackHeld "Comparable" t; Functor.map (fun a => Value.bool a.comparable) (typeInfo t)) #[.agg #[.pointer (some ⟨1, 114, none⟩)]]).run Tryd.prog w = .ok (.bool true) w := by kernel_rfl
theorem is_method (v : Value) (w : World) : (Go.method 152 104 v "Comparable").run Tryd.prog w = .ok (103, v) w := by kernel_rfl
theorem is_info : (Tryd.prog.info? 114).map (·.comparable) = some true := by kernel_rfl
theorem is_size : (Tryd.prog.info? 140).map (·.size) = some 1 := by kernel_rfl

theorem is_same (a : Addr) (w : World) :
    Calls Tryd.prog 54 #[.iface 114 (.pointer (some a)), .iface 114 (.pointer (some a))] w fun e w' => e = .returned (.bool true) ∧ w' = w := by
  obtain ⟨i, hi, hcmp⟩ := Option.map_eq_some_iff.1 is_info
  obtain ⟨j, hj, hjs⟩ := Option.map_eq_some_iff.1 is_size
  have hx := @run_callFunc_extern Tryd.prog 73 _ Extern.ReflectliteType.typeOf Tryd.func73 (by kernel_rfl) (by kernel_rfl) (by kernel_rfl) (by kernel_rfl)
  have hy := @run_callFunc_extern Tryd.prog 103 _ (Extern.ReflectliteType.method fun t => do Go.Extern.Rtype.noPackHeld "Comparable" t; pure (.bool (← typeInfo t).comparable)) Tryd.func103 (by kernel_rfl) (by kernel_rfl) (by kernel_rfl) (by kernel_rfl)
  have tT := is_type
  have cT := is_compares
  have mR := is_method
  have heq := run_eql_iface_ptr_same (P := Tryd.prog) w a Tryd.underlying77 Tryd.underlying114 hi hcmp hj
  go_enter Tryd.func54, Tryd.ntmps54
  go_wp2
  refine wp_loop_rounds 1 ?_
  rw [rounds_succ]
  go_wp2
  go_ret
  exact ⟨rfl, rfl⟩
theorem is_nil (b : Addr) (w : World) :
    Calls Tryd.prog 54 #[.nilIface, .iface 114 (.pointer (some b))] w fun e w' => e = .returned (.bool false) ∧ w' = w := by
  have hn := run_eql_iface_nil_left (P := Tryd.prog) w 114 (.pointer (some b)) Tryd.underlying77
  go_enter Tryd.func54, Tryd.ntmps54
  go_wp2
  go_ret
  exact ⟨rfl, rfl⟩
/-- The program's error lies where its variable says. -/
structure Sent (w : World) : Prop where
  it : ∃ a : Addr, w.cell? ⟨0, 0, none⟩ = some (.iface 114 (.pointer (some a)))
theorem Sent.on {w w' : World} (h : Sent w) (hb : Below w.heap.size w w') : Sent w' := by
  obtain ⟨a, h1⟩ := h.it
  exact ⟨a, (hb.cell (World.block_lt_of_cell? w _ h1)).trans h1⟩
theorem Sent.by' {w w' : World} {row : Option Nat} (h : Sent w) (hg : w.grownBy w' row) (hk : row ≠ some 0) : Sent w' := by
  obtain ⟨a, h1⟩ := h.it
  refine ⟨a, ?_⟩
  have hlt := World.block_lt_of_cell? w _ h1
  have e := hg.block 0 hlt (fun e => hk e.symm)
  rw [← h1]
  simp [World.cell?, e]
end Go.Proofs.YtfcenombphodbaaDoor
