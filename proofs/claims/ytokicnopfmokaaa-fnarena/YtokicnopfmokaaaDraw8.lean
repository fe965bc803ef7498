/-
  The draws of chapter 1's law: what the cursor's functions answer is a function of the code's bytes alone; nothing old is touched but the cursor.
-/
import Derived.Test.YtokicnopfmokaaaBase8
import Derived.Test.YtokicnopfmokaaaMathDraw8
import Derived.Deep.QuietTactic
import Derived.BigQuiet
namespace Go.Proofs.Ytokicnopfmokaaa
open Go.RowKit
set_option linter.unusedVariables false
set_option maxRecDepth 100000

theorem grownBy_set (w : World) (g i : Nat) (v : Value) : w.grownBy (w.setCell ⟨g, i, none⟩ v) (some g) :=
  ⟨rfl, rfl, rfl, by simp, fun k hk hne => Below.heap_setCell w ⟨g, i, none⟩ v k (by simpa using hne)⟩
theorem grownBy_trans {w w1 w2 : World} {row : Option Nat} (h1 : w.grownBy w1 row) (h2 : w1.grownBy w2 row) : w.grownBy w2 row := by
  obtain ⟨a1, b1, c1, d1, e1⟩ := h1
  obtain ⟨a2, b2, c2, d2, e2⟩ := h2
  exact ⟨a2.trans a1, b2.trans b1, c2.trans c1, Nat.le_trans d1 d2, fun k hk hne => (e2 k (by omega) hne).trans (e1 k hk hne)⟩
theorem keep2 {w w' : World} {b : Nat} {o : Obj} (h : w.heap[b]? = some o) (hb : Below w.heap.size w w') : w'.heap[b]? = some o := by
  rw [hb.block b (lt_of_block h)]; exact h

/-- The code beside a cursor g: a slice of so many bytes, each where it should be, none of them in g. -/
structure Code (w : World) (g : Nat) (a : Option Addr) (len : Nat) (cb : Nat → Nat) : Prop where
  small : len ≤ 1048576
  byte : ∀ i, cb i < 256
  cell : ∀ i, i < len → ∃ b off, a = some ⟨b, off, none⟩ ∧ b ≠ g ∧ w.cell? ⟨b, off + i, none⟩ = some (.int .u8 (cb i : Nat))
theorem Code.on {w w' : World} {g : Nat} {a : Option Addr} {len : Nat} {cb : Nat → Nat} (h : Code w g a len cb) (hg : w.grownBy w' (some g)) : Code w' g a len cb :=
  ⟨h.small, h.byte, fun i hi => by
    obtain ⟨b, off, e, hne, hc⟩ := h.cell i hi
    exact ⟨b, off, e, hne, hg.cell hc (by simpa using hne)⟩⟩
/-- The cursor g stands at p over that code. -/
structure Cur (w : World) (g : Nat) (a : Option Addr) (len cap : Nat) (cb : Nat → Nat) (p : Pos) : Prop where
  code : Code w g a len cb
  le : p.i ≤ len
  obj : w.heap[g]? = some (.cells #[.slice a len cap, .int .i64 p.i, .int .i64 p.h] 60 (0, 0))
theorem grownBy_drewN {w w' : World} {g : Nat} (h : w.grownBy w' (some g)) (n : Nat) : w.grownBy (w'.drewN n) (some g) := ⟨h.os, h.tape, h.output, h.size, h.block⟩

set_option maxHeartbeats 400000 in
theorem byte_in (w : World) (g b off len cap i B X Y : Nat) (h H : Int) (hg : w.heap[g]? = some (.cells #[.slice (some ⟨b, off, none⟩) len cap, .int .i64 i, .int .i64 h] 60 (0, 0)))
    (hl : len ≤ 1048576) (hi : i < len) (hb : b ≠ g) (hB : B < 256) (hc : w.cell? ⟨b, off + i, none⟩ = some (.int .u8 (B : Nat)))
    (hH : wrap64 (wrap64 (h * 6364136223846793005) + 1442695040888963407) = H) (hX : bits BinOp.and IntKind.i64 (bits BinOp.xor IntKind.i64 (H / 8589934592) (H / 35184372088832)) 255 = (X : Int)) (hX2 : X < 256)
    (hY : bits BinOp.and IntKind.i64 ((X : Int) + (B : Int)) 255 = (Y : Int)) :
    Calls Try.prog 48 #[.pointer (some ⟨g, 0, none⟩)] w fun e w' => e = .returned (.int .i64 Y) ∧ w'.heap[g]? = some (.cells #[.slice (some ⟨b, off, none⟩) len cap, .int .i64 (i + 1 : Nat), .int .i64 H] 60 (0, 0)) ∧ w.grownBy w' (some g) := by
  have c0 : w.cell? ⟨g, 0, none⟩ = some (.slice (some ⟨b, off, none⟩) len cap) := by simp [World.cell?, hg]
  have c1 : w.cell? ⟨g, 1, none⟩ = some (.int .i64 i) := by simp [World.cell?, hg]
  have c2 : w.cell? ⟨g, 2, none⟩ = some (.int .i64 h) := by simp [World.cell?, hg]
  have f1 : w.frozen? ⟨g, 1, none⟩ = false := by simp [World.frozen?, hg]
  have f2 : w.frozen? ⟨g, 2, none⟩ = false := by simp [World.frozen?, hg]
  have HG : Hid (((w.setCell ⟨g, 2, none⟩ (.int .i64 H)).setCell ⟨g, 1, none⟩ (.int .i64 ((i : Int) + 1))).heap[g]? = some (.cells #[.slice (some ⟨b, off, none⟩) len cap, .int .i64 (i + 1 : Nat), .int .i64 H] 60 (0, 0))) := by
    have h1 := heap_setCell_same w g 2 _ 60 (.int .i64 H) hg
    have h2 := heap_setCell_same _ g 1 _ 60 (.int .i64 ((i : Int) + 1)) h1
    rw [Hid, h2]; simp
  clear hg
  go_enter Try.func48, Try.ntmps48
  go_wp2
  go_quiet (fail)
  go_wp2
  go_quiet (fail)
  go_wp2
  go_quiet (fail)
  go_wp2
  go_ret
  exact ⟨rfl, HG.out, grownBy_trans (grownBy_drewN (grownBy_set w g 2 _) _) (grownBy_set _ g 1 _)⟩

set_option maxHeartbeats 400000 in
theorem byte_out (w : World) (g len cap i X : Nat) (a : Option Addr) (h H : Int) (hg : w.heap[g]? = some (.cells #[.slice a len cap, .int .i64 i, .int .i64 h] 60 (0, 0)))
    (hl : len ≤ 1048576) (hi : ¬ i < len) (hi2 : i ≤ len)
    (hH : wrap64 (wrap64 (h * 6364136223846793005) + 1442695040888963407) = H) (hX : bits BinOp.and IntKind.i64 (bits BinOp.xor IntKind.i64 (H / 8589934592) (H / 35184372088832)) 255 = (X : Int)) (hX2 : X < 256) :
    Calls Try.prog 48 #[.pointer (some ⟨g, 0, none⟩)] w fun e w' => e = .returned (.int .i64 X) ∧ w'.heap[g]? = some (.cells #[.slice a len cap, .int .i64 i, .int .i64 H] 60 (0, 0)) ∧ w.grownBy w' (some g) := by
  have c0 : w.cell? ⟨g, 0, none⟩ = some (.slice a len cap) := by simp [World.cell?, hg]
  have c1 : w.cell? ⟨g, 1, none⟩ = some (.int .i64 i) := by simp [World.cell?, hg]
  have c2 : w.cell? ⟨g, 2, none⟩ = some (.int .i64 h) := by simp [World.cell?, hg]
  have f2 : w.frozen? ⟨g, 2, none⟩ = false := by simp [World.frozen?, hg]
  have HG : Hid ((w.setCell ⟨g, 2, none⟩ (.int .i64 H)).heap[g]? = some (.cells #[.slice a len cap, .int .i64 i, .int .i64 H] 60 (0, 0))) := by
    have h1 := heap_setCell_same w g 2 _ 60 (.int .i64 H) hg
    rw [Hid, h1]; simp
  have HR : Hid (w.grownBy (w.setCell ⟨g, 2, none⟩ (.int .i64 H)) (some g)) := grownBy_set w g 2 _
  clear hg
  go_enter Try.func48, Try.ntmps48
  go_wp2
  go_quiet (fail)
  go_wp2
  go_quiet (fail)
  go_wp2
  go_ret
  exact ⟨rfl, HG.out, grownBy_drewN (grownBy_drewN HR.out _) _⟩

theorem byte_any (w : World) (g len cap : Nat) (a : Option Addr) (cb : Nat → Nat) (p : Pos) (hc : Cur w g a len cap cb p) :
    Calls Try.prog 48 #[.pointer (some ⟨g, 0, none⟩)] w fun e w' => e = .returned (.int .i64 (byteV len cb p : Nat)) ∧ Cur w' g a len cap cb (byteP len p) ∧ w.grownBy w' (some g) := by
  have hx := xI_xN (hN p.h)
  by_cases hi : p.i < len
  · obtain ⟨b, off, rfl, hne, hcell⟩ := hc.code.cell p.i hi
    have hB := hc.code.byte p.i
    refine (byte_in w g b off len cap p.i (cb p.i) (xN (hN p.h)) ((xN (hN p.h) + cb p.i) % 256) p.h (hN p.h) hc.obj hc.code.small hi hne hB hcell rfl hx.1 hx.2 ?_).mono ?_
    · have := and255 (xN (hN p.h) + cb p.i) (by omega)
      simpa using this
    · rintro e w' ⟨rfl, h1, h2⟩
      have e1 : byteV len cb p = (xN (hN p.h) + cb p.i) % 256 := if_pos hi
      have e2 : byteP len p = ⟨p.i + 1, hN p.h⟩ := if_pos hi
      rw [e1, e2]
      exact ⟨rfl, ⟨hc.code.on h2, hi, h1⟩, h2⟩
  · refine (byte_out w g len cap p.i (xN (hN p.h)) a p.h (hN p.h) hc.obj hc.code.small hi hc.le rfl hx.1 hx.2).mono ?_
    rintro e w' ⟨rfl, h1, h2⟩
    have e1 : byteV len cb p = xN (hN p.h) := if_neg hi
    have e2 : byteP len p = ⟨p.i, hN p.h⟩ := if_neg hi
    rw [e1, e2]
    exact ⟨rfl, ⟨hc.code.on h2, hc.le, h1⟩, h2⟩

set_option maxHeartbeats 400000 in
theorem below_small (w : World) (g len cap n : Nat) (a : Option Addr) (cb : Nat → Nat) (p : Pos) (hc : Cur w g a len cap cb p) (h0 : 0 < n) (h1 : n ≤ 256) :
    Calls Try.prog 28 #[.pointer (some ⟨g, 0, none⟩), .int .i64 n] w fun e w' => e = .returned (.int .i64 (belowV len cb n p : Nat)) ∧ Cur w' g a len cap cb (belowP len n p) ∧ w.grownBy w' (some g) := by
  have e1 : belowV len cb n p = byteV len cb p % n := if_pos h1
  have e2 : belowP len n p = byteP len p := if_pos h1
  rw [e1, e2]
  have hb := byteV_lt len cb p
  have c := byte_any w g len cap a cb p hc
  generalize byteV len cb p = x at *
  generalize byteP len p = p1 at *
  clear e1 e2 hc
  go_enter Try.func28, Try.ntmps28
  go_wp2_with fail
  refine c.mono ?_
  rintro e w1 ⟨rfl, hc1, hg1⟩
  have HC : Hid (Cur w1 g a len cap cb p1) := hc1
  clear c hc1
  go_wp2
  go_ret
  exact ⟨by go_num, HC.out, hg1⟩

set_option maxHeartbeats 400000 in
theorem below_great (w : World) (g len cap n : Nat) (a : Option Addr) (cb : Nat → Nat) (p : Pos) (hc : Cur w g a len cap cb p) (h1 : ¬ n ≤ 256) (hn : n ≤ 4294967296) :
    Calls Try.prog 28 #[.pointer (some ⟨g, 0, none⟩), .int .i64 n] w fun e w' => e = .returned (.int .i64 (belowV len cb n p : Nat)) ∧ Cur w' g a len cap cb (belowP len n p) ∧ w.grownBy w' (some g) := by
  have e1 : belowV len cb n p = (byteV len cb p * 16777216 + byteV len cb (byteP len p) * 65536 + byteV len cb (byteP len (byteP len p)) * 256 + byteV len cb (byteP len (byteP len (byteP len p)))) % n := if_neg h1
  have e2 : belowP len n p = byteP len (byteP len (byteP len (byteP len p))) := if_neg h1
  rw [e1, e2]
  have b0 := byteV_lt len cb p
  have b1 := byteV_lt len cb (byteP len p)
  have b2 := byteV_lt len cb (byteP len (byteP len p))
  have b3 := byteV_lt len cb (byteP len (byteP len (byteP len p)))
  have c0 := byte_any w g len cap a cb p hc
  have c1 := fun w hc => byte_any w g len cap a cb (byteP len p) hc
  have c2 := fun w hc => byte_any w g len cap a cb (byteP len (byteP len p)) hc
  have c3 := fun w hc => byte_any w g len cap a cb (byteP len (byteP len (byteP len p))) hc
  generalize byteV len cb (byteP len (byteP len (byteP len p))) = x3 at *
  generalize byteP len (byteP len (byteP len (byteP len p))) = p4 at *
  generalize byteV len cb (byteP len (byteP len p)) = x2 at *
  generalize byteP len (byteP len (byteP len p)) = p3 at *
  generalize byteV len cb (byteP len p) = x1 at *
  generalize byteP len (byteP len p) = p2 at *
  generalize byteV len cb p = x0 at *
  generalize byteP len p = p1 at *
  have C1 : Hid (∀ w, Cur w g a len cap cb p1 → _) := c1
  have C2 : Hid (∀ w, Cur w g a len cap cb p2 → _) := c2
  have C3 : Hid (∀ w, Cur w g a len cap cb p3 → _) := c3
  clear e1 e2 hc c1 c2 c3
  go_enter Try.func28, Try.ntmps28
  go_wp2_with fail
  refine c0.mono ?_
  rintro e w1 ⟨rfl, hc1, hg1⟩
  have HC : Hid (Cur w1 g a len cap cb p1) := hc1
  clear c0 hc1
  go_wp2_with fail
  refine (C1.out w1 HC.out).mono ?_
  rintro e w2 ⟨rfl, hc1, hg2⟩
  clear C1 HC
  have HC : Hid (Cur w2 g a len cap cb p2) := hc1
  clear hc1
  go_wp2_with fail
  refine (C2.out w2 HC.out).mono ?_
  rintro e w3 ⟨rfl, hc1, hg3⟩
  clear C2 HC
  have HC : Hid (Cur w3 g a len cap cb p3) := hc1
  clear hc1
  go_wp2_with fail
  refine (C3.out w3 HC.out).mono ?_
  rintro e w4 ⟨rfl, hc1, hg4⟩
  clear C3 HC
  have HC : Hid (Cur w4 g a len cap cb p4) := hc1
  clear hc1
  go_wp2
  go_ret
  exact ⟨by go_num, HC.out, grownBy_trans (grownBy_trans hg1 hg2) (grownBy_trans hg3 hg4)⟩

theorem below_any (w : World) (g len cap n : Nat) (a : Option Addr) (cb : Nat → Nat) (p : Pos) (hc : Cur w g a len cap cb p) (h0 : 0 < n) (hn : n ≤ 4294967296) :
    Calls Try.prog 28 #[.pointer (some ⟨g, 0, none⟩), .int .i64 n] w fun e w' => e = .returned (.int .i64 (belowV len cb n p : Nat)) ∧ Cur w' g a len cap cb (belowP len n p) ∧ w.grownBy w' (some g) := by
  by_cases h : n ≤ 256
  · exact below_small w g len cap n a cb p hc h0 h
  · exact below_great w g len cap n a cb p hc h hn

set_option maxHeartbeats 400000 in
theorem once_any (w : World) (g len cap n : Nat) (a : Option Addr) (cb : Nat → Nat) (p : Pos) (hc : Cur w g a len cap cb p) (h0 : 0 < n) (hn : n ≤ 4294967296) :
    Calls Try.prog 16 #[.pointer (some ⟨g, 0, none⟩), .int .i64 n] w fun e w' => e = .returned (.bool ((belowV len cb n p : Int) == 0)) ∧ Cur w' g a len cap cb (belowP len n p) ∧ w.grownBy w' (some g) := by
  have c := below_any w g len cap n a cb p hc h0 hn
  generalize belowV len cb n p = x at *
  generalize belowP len n p = p1 at *
  clear hc
  go_enter Try.func16, Try.ntmps16
  go_wp2_with fail
  refine c.mono ?_
  rintro e w1 ⟨rfl, hc1, hg1⟩
  have HC : Hid (Cur w1 g a len cap cb p1) := hc1
  clear c hc1
  go_wp2
  go_ret
  exact ⟨rfl, HC.out, hg1⟩
end Go.Proofs.Ytokicnopfmokaaa

