/-
  The draws of chapter 5's law: numbers and amounts.
-/
import Derived.Test.YtiolhhamedjmgaaDrawE
namespace Go.Proofs.Ytiolhhamedjmgaa
open Go.RowKit
set_option linter.unusedVariables false

/-- A number was drawn. -/
def NumDrawn (w : World) (g s : Nat) (e : Ending) (w' : World) : Prop := ∃ v : Int, e = .returned (.int .i64 v) ∧ CurE w' g s ∧ w.grownBy w' (some g)
theorem grownBy_new {w wr : World} {g b : Nat} (h : w.grownBy wr (some g)) (hb : w.heap.size ≤ b) (i : Nat) (v : Value) : w.grownBy (wr.setCell ⟨b, i, none⟩ v) (some g) :=
  ⟨h.os, h.tape, h.output, by have := h.size; simpa using this, fun k hk hne => (Below.heap_setCell wr ⟨b, i, none⟩ v k (by simp; omega)).trans (h.block k hk hne)⟩

set_option maxHeartbeats 1000000 in
theorem l5Num_any (w : World) (g s : Nat) (h : CurE w g s) (hs : s ≤ w.heap.size) :
    Calls Try.prog 35 #[.pointer (some ⟨g, 0, none⟩)] w fun e w' => NumDrawn w g s e w' := by
  have C0 := onceE w g s 20 h (by decide) (by decide)
  have HS : Hid (s ≤ w.heap.size) := hs
  clear h hs
  go_enter Try.func35, Try.ntmps35
  go_wp2_with fail
  refine C0.mono ?_
  rintro e w1 ⟨v, rfl, hc, hgr⟩
  clear C0
  have HG : Hid (CurE w1 g s ∧ w.grownBy w1 (some g)) := ⟨hc, hgr⟩
  have hs1 : s ≤ w1.heap.size := Nat.le_trans HS.out hgr.size
  have C1 := belowE w1 g s 60 hc (by decide) (by decide)
  have C2 := pickE (w1.alloc (.cells #[.int .i64 (-1), .int .i64 1000000, .int .i64 1000001, .int .i64 999999] 3 (0, 0))) g s w1.heap.size [-1, 1000000, 1000001, 999999] 4 rfl (by decide) (by decide) (hc.alloc _ hs1) hs1 (heap_alloc_new w1 _)
  clear hc hgr hs1 HS
  cases v with
  | true =>
    clear C1
    go_wp2_with fail
    refine C2.mono ?_
    rintro e w2 ⟨x, rfl, hc2, hgr2⟩
    have H2 : Hid (CurE w2 g s ∧ w.grownBy w2 (some g)) := ⟨hc2, grownBy_trans HG.out.2 (grownBy_trans (World.grownBy_alloc w1 _ _) hgr2)⟩
    clear C2 hc2 hgr2 HG
    go_wp2
    go_ret
    exact ⟨x, rfl, H2.out.1, H2.out.2⟩
  | false =>
    clear C2
    go_wp2_with fail
    refine C1.mono ?_
    rintro e w2 ⟨x, rfl, _, hc2, hgr2⟩
    have H2 : Hid (CurE w2 g s ∧ w.grownBy w2 (some g)) := ⟨hc2, grownBy_trans HG.out.2 hgr2⟩
    clear C1 hc2 hgr2 HG
    go_wp2
    go_ret
    exact ⟨x, rfl, H2.out.1, H2.out.2⟩

/-- An amount was drawn. -/
def AmtDrawn (w : World) (g s : Nat) (e : Ending) (w' : World) : Prop := ∃ a b c : Int, e = .returned (amt a b c) ∧ CurE w' g s ∧ w.grownBy w' (some g)

set_option maxHeartbeats 1000000 in
theorem l5Any_any (w : World) (g s : Nat) (h : CurE w g s) (hs : s ≤ w.heap.size) :
    Calls Try.prog 26 #[.pointer (some ⟨g, 0, none⟩)] w fun e w' => AmtDrawn w g s e w' := by
  have C0 := l5Num_any (w.alloc (boxA 0 0 0)) g s (h.alloc _ hs) (by simp; omega)
  have HS : Hid (s ≤ w.heap.size) := hs
  have HGS : Hid (g < s) := h.lt
  clear h hs
  go_enter Try.func26, Try.ntmps26
  go_wp2_with fail
  refine C0.mono ?_
  rintro e w1 ⟨a, rfl, hc, hgr⟩
  clear C0
  have hz1 : (w.alloc (boxA 0 0 0)).heap.size = w.heap.size + 1 := by simp
  have hs1 : s ≤ w1.heap.size := by have := hgr.size; have := HS.out; omega
  have HG1 : Hid ((w.alloc (boxA 0 0 0)).grownBy w1 (some g)) := hgr
  have C1 := l5Num_any w1 g s hc hs1
  clear hc hgr hz1
  go_wp2_with fail
  refine C1.mono ?_
  rintro e w2 ⟨b, rfl, hc, hgr⟩
  clear C1
  have hs2 : s ≤ w2.heap.size := Nat.le_trans hs1 hgr.size
  have HG2 : Hid ((w.alloc (boxA 0 0 0)).grownBy w2 (some g)) := grownBy_trans HG1.out hgr
  have C2 := l5Num_any w2 g s hc hs2
  clear hc hgr HG1 hs1
  go_wp2_with fail
  refine C2.mono ?_
  rintro e w3 ⟨c, rfl, hc, hgr⟩
  clear C2
  have HG3 : Hid ((w.alloc (boxA 0 0 0)).grownBy w3 (some g)) := grownBy_trans HG2.out hgr
  have HC : Hid (CurE w3 g s) := hc
  have b2 : Box3 w3 w.heap.size 25 0 0 0 := ⟨grown_kept HG3.out (heap_alloc_new w _) (by have := HGS.out; have := HS.out; simp; omega)⟩
  have r0 := b2.c0
  have r1 := b2.c1
  have r2 := b2.c2
  have f0 := b2.f0 0
  have f1 := b2.f0 1
  have f2 := b2.f0 2
  have HP := hid_of (b2.put (.int .i64 a) (.int .i64 b) (.int .i64 c))
  clear hc hgr HG2 hs2 b2
  go_wp2
  obtain ⟨p0, p1, p2⟩ := HP.out
  refine bodyPost_ret (v := amt a b c) (by simp [results, go_sem, p0, p1, p2]) rfl ⟨a, b, c, rfl, ?_, ?_⟩
  · have := HS.out
    exact ((HC.out.set _ _ _ this).set _ _ _ this).set _ _ _ this
  · exact grownBy_new (grownBy_new (grownBy_new (grownBy_trans (World.grownBy_alloc w _ _) HG3.out) (Nat.le_refl _) _ _) (Nat.le_refl _) _ _) (Nat.le_refl _) _ _

set_option maxHeartbeats 2000000 in
theorem l1Num_any (w : World) (g s : Nat) (h : CurE w g s) (hs : s ≤ w.heap.size) :
    Calls Try.prog 33 #[.pointer (some ⟨g, 0, none⟩)] w fun e w' => NumDrawn w g s e w' := by
  have C0 := belowE w g s 8 h (by decide) (by decide)
  have HS : Hid (s ≤ w.heap.size) := hs
  clear h hs
  go_enter Try.func33, Try.ntmps33
  go_wp2_with fail
  refine C0.mono ?_
  rintro e w1 ⟨v, rfl, hv, hc, hgr⟩
  clear C0
  have HG : Hid (CurE w1 g s ∧ w.grownBy w1 (some g)) := ⟨hc, hgr⟩
  have hs1 : s ≤ w1.heap.size := Nat.le_trans HS.out hgr.size
  by_cases h0 : v = 0
  · subst h0
    have C2 := pickE (w1.alloc (.cells #[.int .i64 (-1), .int .i64 0, .int .i64 127, .int .i64 128, .int .i64 255, .int .i64 256, .int .i64 16383, .int .i64 16384, .int .i64 65535, .int .i64 65536, .int .i64 562949953421311, .int .i64 562949953421312, .int .i64 999999999, .int .i64 1000000000, .int .i64 (-999999999), .int .i64 9223372036854775807, .int .i64 (-9223372036854775808)] 3 (0, 0))) g s w1.heap.size [-1, 0, 127, 128, 255, 256, 16383, 16384, 65535, 65536, 562949953421311, 562949953421312, 999999999, 1000000000, -999999999, 9223372036854775807, -9223372036854775808] 17 rfl (by decide) (by decide) (hc.alloc _ hs1) hs1 (heap_alloc_new w1 _)
    clear hc hgr hs1 HS hv
    go_wp2_with fail
    refine C2.mono ?_
    rintro e w2 ⟨x, rfl, hc2, hgr2⟩
    have H2 : Hid (CurE w2 g s ∧ w.grownBy w2 (some g)) := ⟨hc2, grownBy_trans HG.out.2 (grownBy_trans (World.grownBy_alloc w1 _ _) hgr2)⟩
    clear C2 hc2 hgr2 HG
    go_wp2
    go_ret
    exact ⟨x, rfl, H2.out.1, H2.out.2⟩
  by_cases h1 : v = 1
  · subst h1
    have C2 := belowE w1 g s 1000000000 hc (by decide) (by decide)
    clear hc hgr hs1 HS hv h0
    go_wp2_with fail
    refine C2.mono ?_
    rintro e w2 ⟨x, rfl, hx, hc2, hgr2⟩
    have H2 : Hid (CurE w2 g s ∧ w.grownBy w2 (some g)) := ⟨hc2, grownBy_trans HG.out.2 hgr2⟩
    have C3 := belowE w2 g s 1000000000 hc2 (by decide) (by decide)
    clear C2 hc2 hgr2 HG hx
    go_wp2_with fail
    refine C3.mono ?_
    rintro e w3 ⟨y, rfl, hy, hc2, hgr2⟩
    have H3 : Hid (CurE w3 g s ∧ w.grownBy w3 (some g)) := ⟨hc2, grownBy_trans H2.out.2 hgr2⟩
    clear C3 hc2 hgr2 H2 hy
    go_wp2
    go_ret
    exact ⟨_, rfl, H3.out.1, H3.out.2⟩
  by_cases h2 : v = 2
  · subst h2
    have C2 := belowE w1 g s 100000 hc (by decide) (by decide)
    clear hc hgr hs1 HS hv h0 h1
    go_wp2_with fail
    refine C2.mono ?_
    rintro e w2 ⟨x, rfl, hx, hc2, hgr2⟩
    have H2 : Hid (CurE w2 g s ∧ w.grownBy w2 (some g)) := ⟨hc2, grownBy_trans HG.out.2 hgr2⟩
    clear C2 hc2 hgr2 HG
    go_wp2
    go_ret
    exact ⟨_, rfl, H2.out.1, H2.out.2⟩
  · have C2 := belowE w1 g s 70000 hc (by decide) (by decide)
    clear hc hgr hs1 HS
    go_wp2_with fail
    refine C2.mono ?_
    rintro e w2 ⟨x, rfl, hx, hc2, hgr2⟩
    have H2 : Hid (CurE w2 g s ∧ w.grownBy w2 (some g)) := ⟨hc2, grownBy_trans HG.out.2 hgr2⟩
    clear C2 hc2 hgr2 HG
    go_wp2
    go_ret
    exact ⟨_, rfl, H2.out.1, H2.out.2⟩

/-- What DrawAmtOne answers. -/
def OneDrawn (w : World) (e : Ending) (w' : World) : Prop := ∃ k n : Int, e = .returned (.tuple #[.int .i64 k, .int .i64 n]) ∧ Below w.heap.size w w'

set_option maxHeartbeats 1000000 in
theorem drawOne_any (w : World) (a : Option Addr) (len cap : Nat) (cb : Nat → Nat) (hc : Code0 w a len cb) :
    Calls Try.prog 15 #[.slice a len cap] w fun e w' => OneDrawn w e w' := by
  have C1 := newE w a len cap cb hc
  clear hc
  go_enter Try.func15, Try.ntmps15
  go_wp2_with fail
  refine C1.mono ?_
  rintro e w1 ⟨rfl, hcur, hb⟩
  clear C1
  have HB : Hid (Below w.heap.size w w1) := hb
  have C2 := belowE w1 w.heap.size w1.heap.size 5 hcur (by decide) (by decide)
  clear hcur hb
  go_wp2_with fail
  refine C2.mono ?_
  rintro e w2 ⟨x, rfl, hx, hc2, hgr2⟩
  have HB2 : Hid (Below w.heap.size w w2) := HB.out.grown hgr2 HB.out.size (fun k e => by have := Option.some.inj e; omega)
  have C3 := l1Num_any w2 w.heap.size w1.heap.size hc2 hgr2.size
  clear C2 hc2 hgr2
  go_wp2_with fail
  refine C3.mono ?_
  rintro e w3 ⟨n, rfl, hc2, hgr2⟩
  have HB3 : Hid (Below w.heap.size w w3) := HB2.out.grown hgr2 HB2.out.size (fun k e => by have := Option.some.inj e; omega)
  clear C3 hc2 hgr2 HB HB2
  go_wp2
  first
    | (go_returns; exact ⟨_, n, rfl, HB3.out⟩)
    | exact bodyPost_ret (v := .tuple #[.int .i64 (wrap64 ((x : Int) - 1)), .int .i64 n]) (by simp [results, go_sem]) rfl ⟨_, n, rfl, HB3.out⟩
    | exact bodyPost_ret (v := .tuple #[.int .i64 ((x : Int) - 1), .int .i64 n]) (by simp [results, go_sem]) rfl ⟨_, n, rfl, HB3.out⟩
end Go.Proofs.Ytiolhhamedjmgaa
