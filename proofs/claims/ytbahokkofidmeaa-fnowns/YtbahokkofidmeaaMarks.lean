/-
  Marks on a label.
-/
import Derived.Test.YtbahokkofidmeaaMark
namespace Go.Proofs.Ytbahokkofidmeaa
open Go.RowKit
set_option linter.unusedVariables false

theorem RowIn.alloc {w : World} {g : Nat} {xs : List Int} {rest : List Value} (h : RowIn w g xs rest) (o : Obj) : RowIn (w.alloc o) g xs rest := by
  unfold RowIn at *
  rw [heap_alloc_old _ _ (lt_of_block h)]; exact h

set_option maxHeartbeats 400000 in
theorem markLabel_row (g cap : Nat) (xs : List Int) (rest : List Value) (k0 : Int) (w : World) (hr : RowIn w g xs rest) (hc : xs.length ≤ cap) (hn : xs.length ≤ 1048576) (h0 : 0 ≤ k0) (h1 : k0 ≤ 1099511627776) :
    Calls Try.prog 30 #[.agg #[.slice (some ⟨g, 0, none⟩) xs.length cap], .int .i64 k0] w fun e w' => e = .returned (.int .i64 (k0 + xs.length)) ∧ RowIn w' g (upFrom k0 xs.length) rest ∧ w.grownBy w' (some g) := by
  have C := markIntS_row g cap xs rest k0 (w.alloc (.cells #[.slice (some ⟨g, 0, none⟩) xs.length cap] 26 (0, 0))) (hr.alloc _) hc hn h0 h1
  have HG : Hid (w.grownBy (w.alloc (.cells #[.slice (some ⟨g, 0, none⟩) xs.length cap] 26 (0, 0))) (some g)) := World.grownBy_alloc _ _ _
  clear hr
  go_enter Try.func30, Try.ntmps30
  go_wp2_with fail
  refine C.mono ?_
  rintro e w' ⟨rfl, hrow, hgr⟩
  clear C
  have HR : Hid (RowIn w' g (upFrom k0 xs.length) rest) := hrow
  have HG2 : Hid (w.grownBy w' (some g)) := grownBy_trans HG.out hgr
  clear hrow hgr HG
  go_wp2
  go_ret
  exact ⟨rfl, HR.out, HG2.out⟩

end Go.Proofs.Ytbahokkofidmeaa
