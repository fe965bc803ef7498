/-
  The draws of chapter 8's handles.
-/
import Derived.Test.YtidmgkgmdndglaaDrawE8
namespace Go.Proofs.Ytidmgkgmdndglaa
open Go.RowKit
set_option linter.unusedVariables false

/-- A number was drawn. -/
def NumDrawn (w : World) (g s : Nat) (e : Ending) (w' : World) : Prop := ∃ v : Int, e = .returned (.int .i64 v) ∧ CurE w' g s ∧ w.grownBy w' (some g)
set_option maxHeartbeats 1000000 in
theorem l8Num_any (w : World) (g s : Nat) (h : CurE w g s) (hs : s ≤ w.heap.size) :
    Calls Try.prog 18 #[.pointer (some ⟨g, 0, none⟩)] w fun e w' => NumDrawn w g s e w' := by
  have C0 := onceE w g s 8 h (by decide) (by decide)
  have HS : Hid (s ≤ w.heap.size) := hs
  clear h hs
  go_enter Try.func18, Try.ntmps18
  go_wp2_with fail
  refine C0.mono ?_
  rintro e w1 ⟨v, rfl, hc, hgr⟩
  clear C0
  have HG : Hid (CurE w1 g s ∧ w.grownBy w1 (some g)) := ⟨hc, hgr⟩
  have hs1 : s ≤ w1.heap.size := Nat.le_trans HS.out hgr.size
  have C1 := belowE w1 g s 400 hc (by decide) (by decide)
  have C2 := pickE (w1.alloc (.cells #[.int .i64 (-1), .int .i64 29999, .int .i64 30000, .int .i64 9223372036854775807] 3 (0, 0))) g s w1.heap.size [-1, 29999, 30000, 9223372036854775807] 4 rfl (by decide) (by decide) (hc.alloc _ hs1) hs1 (heap_alloc_new w1 _)
  clear hc hgr hs1 HS
  cases v with
  | true =>
    clear C1
    go_wp2_with fail
    refine C2.mono ?_
    rintro e w2 ⟨x, rfl, hc2, hgr2⟩
    have H2 : Hid (CurE w2 g s ∧ w.grownBy w2 (some g)) := ⟨hc2, grownBy_trans HG.out.2 (grownBy_trans (World.grownBy_alloc w1 _ _) hgr2)⟩
    clear C2 hc2 hgr2 HG
    go_wp2
    go_ret
    exact ⟨x, rfl, H2.out.1, H2.out.2⟩
  | false =>
    clear C2
    go_wp2_with fail
    refine C1.mono ?_
    rintro e w2 ⟨x, rfl, hx, hc2, hgr2⟩
    have H2 : Hid (CurE w2 g s ∧ w.grownBy w2 (some g)) := ⟨hc2, grownBy_trans HG.out.2 hgr2⟩
    clear C1 hc2 hgr2 HG
    go_wp2
    go_ret
    exact ⟨x, rfl, H2.out.1, H2.out.2⟩
theorem below_cur {w w1 w2 : World} (hb : Below w.heap.size w w1) (hg : w1.grownBy w2 (some w.heap.size)) : Below w.heap.size w w2 :=
  hb.grown hg hb.size (fun k e => by cases e; exact Nat.le_refl _)
theorem drawPart_any (w : World) (a : Option Addr) (len cap : Nat) (cb : Nat → Nat) (hc : Code0 w a len cb) :
    Calls Try.prog 10 #[.slice a len cap] w fun e w' => (∃ n : Int, e = .returned (.int .i64 n)) ∧ Below w.heap.size w w' := by
  have C0 := newE w a len cap cb hc
  clear hc
  go_enter Try.func10, Try.ntmps10
  go_wp2_with fail
  refine C0.mono ?_
  rintro e w1 ⟨rfl, hc, hb⟩
  have C1 := l8Num_any w1 w.heap.size w1.heap.size hc (Nat.le_refl _)
  have HB := hid_of hb
  clear C0 hc hb
  go_wp2_with fail
  refine C1.mono ?_
  rintro e w2 ⟨x, rfl, hc2, hgr2⟩
  have HB2 := hid_of (below_cur HB.out hgr2)
  clear C1 hc2 hgr2 HB
  go_wp2
  go_ret
  exact ⟨⟨x, rfl⟩, HB2.out⟩
set_option maxHeartbeats 1000000 in
theorem drawOf_any (w : World) (a : Option Addr) (len cap : Nat) (cb : Nat → Nat) (hc : Code0 w a len cb) :
    Calls Try.prog 5 #[.slice a len cap] w fun e w' => (∃ p s g : Int, e = .returned (.tuple #[.int .i64 p, .int .i64 s, .int .i64 g])) ∧ Below w.heap.size w w' := by
  have C0 := newE w a len cap cb hc
  clear hc
  go_enter Try.func5, Try.ntmps5
  go_wp2_with fail
  refine C0.mono ?_
  rintro e w1 ⟨rfl, hc, hb⟩
  have C1 := belowE w1 w.heap.size w1.heap.size 5 hc (by decide) (by decide)
  have HB1 := hid_of hb
  clear C0 hc hb
  go_wp2_with fail
  refine C1.mono ?_
  rintro e w2 ⟨x, rfl, hx, hc2, hgr2⟩
  have C2 := belowE w2 w.heap.size w1.heap.size 12 hc2 (by decide) (by decide)
  have HB2 := hid_of (below_cur HB1.out hgr2)
  have hz2 : w1.heap.size ≤ w2.heap.size := hgr2.size
  clear C1 hc2 hgr2 HB1
  go_wp2_with fail
  refine C2.mono ?_
  rintro e w3 ⟨y, rfl, hy, hc3, hgr3⟩
  have hz3 : w1.heap.size ≤ w3.heap.size := Nat.le_trans hz2 hgr3.size
  have C3 := pickE (w3.alloc (.cells #[.int .i64 0, .int .i64 1, .int .i64 7, .int .i64 999, .int .i64 1000, .int .i64 (-1)] 3 (0, 0))) w.heap.size w1.heap.size w3.heap.size [0, 1, 7, 999, 1000, -1] 6 rfl (by decide) (by decide) (hc3.alloc _ hz3) hz3 (heap_alloc_new w3 _)
  have HB3 := hid_of (below_more (below_cur HB2.out hgr3) (below_alloc w3 (.cells #[.int .i64 0, .int .i64 1, .int .i64 7, .int .i64 999, .int .i64 1000, .int .i64 (-1)] 3 (0, 0))))
  clear C2 hc3 hgr3 HB2 hz2 hz3
  go_wp2_with fail
  refine C3.mono ?_
  rintro e w4 ⟨z, rfl, hc4, hgr4⟩
  have HB4 := hid_of (below_cur HB3.out hgr4)
  clear C3 hc4 hgr4 HB3
  go_wp2
  go_returns
  exact ⟨⟨_, _, _, rfl⟩, HB4.out⟩
end Go.Proofs.Ytidmgkgmdndglaa
