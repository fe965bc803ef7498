/-
  A copy by slices.Clone.
-/
import Derived.Test.YtfcenombphodbaaDoorBring
import Derived.Lib.SliceRun
namespace Go.Proofs.YtfcenombphodbaaDoor
open Go.RowKit
set_option linter.unusedVariables false
set_option maxRecDepth 100000

set_option maxHeartbeats 1000000 in
theorem implClone_any (p : Addr) (n cap : Nat) (ts : List Re) (w : World) (hx : IsTree w (.slice (some p) n cap) ts) (hn : n = ts.length) (hl : ts.length ≤ 1048576) :
    Calls Tryd.prog 48 #[.slice (some p) n cap] w fun e w' => CopyOf ts n w e w' := by
  have HX : Hid (IsTree w (.slice (some p) n cap) ts) := hx
  have HN : Hid (n = ts.length) := hn
  have q22 : ∀ (w : World) (a : Option Addr) (n c n' c' : Nat), (binOp .eql 32 (.slice a n c) (.slice none n' c')).run Tryd.prog w = .ok (.bool a.isNone) w := fun w a n c n' c' => Lib.run_eql_slice_nil w _ _ a n c n' c' Tryd.underlying32
  clear hx hn
  go_enter Tryd.func48, Tryd.ntmps48
  go_wp2_with (refine wpList_copyT rfl (.tmp 5) (.tmp 6) rfl w p cap ts n HN.out rfl rfl HX.out hl ?_; intro g c rs w' ho hb)
  go_ret
  exact ⟨g, c, rs, rfl, ho.out, hb.out⟩
end Go.Proofs.YtfcenombphodbaaDoor
