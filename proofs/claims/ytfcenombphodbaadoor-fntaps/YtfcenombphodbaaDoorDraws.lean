/-
  Plain facts on bytes and numbers, for the laws of chapter 1 (no program is named here): what a row of bytes reads as, and that '|' and '&' on small numbers are plain sums and remainders. No conditions but those that each theorem names. The draws as plain functions of the code's bytes: what each answers, and where the cursor stands behind it. No program is named here. The draws of chapter 1's law: what the cursor's functions answer is a function of the code's bytes alone; nothing old is touched but the cursor. The draws of chapter 1's law, second part: a new cursor, a pick from a list, a number. The draws, of which only this is told: they answer, and leave the cursor right. The law's own 'big'.
-/
import Derived.Test.YtfcenombphodbaaDoorReadT
import Derived.WalkKit
import Derived.Laws.BitsLemmas
import Derived.Laws.CopyOwn
import Derived.Deep.QuietTactic
import Derived.BigQuiet
import Derived.Deep.RegionLaw
namespace Go.Proofs.YtfcenombphodbaaDoor
open Go.RowKit

def rd (l : List UInt8) : Nat := l.foldl (fun n b => n * 256 + b.toNat) 0
theorem rd_snoc (l : List UInt8) (b : UInt8) : rd (l ++ [b]) = rd l * 256 + b.toNat := by simp [rd]
theorem rd_lt (l : List UInt8) : rd l < 256 ^ l.length := by
  suffices h : ∀ m : List UInt8, rd m.reverse < 256 ^ m.length by
    have := h l.reverse; simpa using this
  intro m
  induction m with
  | nil => simp [rd]
  | cons b m ih =>
    rw [List.reverse_cons, rd_snoc, List.length_cons, Nat.pow_succ]
    have := b.toNat_lt
    omega
theorem take_snoc (s : ByteArray) (k : Nat) (h : k < s.size) : s.data.toList.take (k + 1) = s.data.toList.take k ++ [s[k]] := by
  rw [List.take_succ_eq_append_getElem (by simpa using h)]; rfl
theorem rd_small (l : List UInt8) (k : Nat) (hk : k ≤ 6) (h : l.length ≤ k) : rd l < 281474976710656 := by
  have h1 := rd_lt l
  have h2 : 256 ^ l.length ≤ 256 ^ 6 := Nat.pow_le_pow_right (by omega) (by omega)
  have h3 : (256 : Nat) ^ 6 = 281474976710656 := by decide
  omega
theorem or8 (n b : Nat) (hn : n < 281474976710656) (hb : b < 256) : bits BinOp.or IntKind.i64 ((n : Int) * 256) (wrap64 (b : Int)) = ((n * 256 + b : Nat) : Int) := by
  rw [wrap64_id _ (by omega) (by omega)]
  rw [bits_join .i64 63 (by decide) wraps_i64 8 _ _ (by omega) (by omega) (by omega) (by omega) (by omega) (by omega)]
  omega
/-- A row that is filled from its head on: the bytes 'acc', then f noughts. -/
def bcells (l : List UInt8) : List Value := l.map fun b => .int .u8 (b.toNat : Int)
def rowOf (acc : List UInt8) (f : Nat) : List Value := bcells acc ++ List.replicate f (.int .u8 0)
theorem bcells_append (a b : List UInt8) : bcells (a ++ b) = bcells a ++ bcells b := by simp [bcells]
theorem bcells_length (a : List UInt8) : (bcells a).length = a.length := by simp [bcells]
theorem rowOf_length (acc : List UInt8) (f : Nat) : (rowOf acc f).length = acc.length + f := by simp [rowOf, bcells]
theorem rowOf_splice (acc new : List UInt8) (f : Nat) : splice (rowOf acc (f + new.length)) acc.length (bcells new) = rowOf (acc ++ new) f := by
  unfold splice rowOf
  have h1 : (bcells acc).length = acc.length := bcells_length acc
  rw [List.take_append_of_le_length (by omega), List.take_of_length_le (by omega), bcells_length, List.drop_append, h1, List.drop_of_length_le (by omega), bcells_append]
  simp
theorem rowOf_get (acc : List UInt8) (f j : Nat) (h : j < acc.length) : (rowOf acc f)[j]? = some (.int .u8 (acc[j].toNat : Int)) := by
  unfold rowOf
  rw [List.getElem?_append_left (by rw [bcells_length]; omega)]
  simp [bcells, h]
theorem bcells_one (new : List UInt8) : ∀ v ∈ bcells new, v.oneCell' = true := by
  intro v hv
  simp [bcells] at hv
  obtain ⟨b, _, rfl⟩ := hv
  rfl

/-- The bytes of a number, seven bits to a byte, the lowest first. -/
def enc : Nat → Nat → List UInt8
  | 0, n => [UInt8.ofNat n]
  | f + 1, n => if n < 128 then [UInt8.ofNat n] else UInt8.ofNat (128 + n % 128) :: enc f (n / 128)
theorem enc_small (f n : Nat) (h : n < 128) : enc f n = [UInt8.ofNat n] := by cases f <;> simp [enc, h]
theorem enc_great (f n : Nat) (h : ¬ n < 128) : enc (f + 1) n = UInt8.ofNat (128 + n % 128) :: enc f (n / 128) := by simp [enc, h]
theorem enc_step (acc : List UInt8) (f n : Nat) (h : ¬ n < 128) (l : List UInt8) (hl : acc ++ enc (f + 1) n = l) : (acc ++ [UInt8.ofNat (128 + n % 128)]) ++ enc f (n / 128) = l := by
  rw [← hl, enc_great f n h]; simp
theorem enc_stop (acc : List UInt8) (f n : Nat) (h : n < 128) (l : List UInt8) (hl : acc ++ enc f n = l) : acc ++ [UInt8.ofNat n] = l := by
  rw [← hl, enc_small f n h]
theorem pow128_div (m f : Nat) (h : m < 128 ^ (f + 1)) : m / 128 < 128 ^ f := by
  rw [Nat.pow_succ] at h
  exact Nat.div_lt_of_lt_mul (by omega)
theorem pow128_pos (m f : Nat) (h : m < 128 ^ f) (hm : 127 < m) : ∃ g, f = g + 2 := by
  match f, h with
  | 0, h => simp at h; omega
  | 1, h => simp at h; omega
  | g + 2, _ => exact ⟨g, rfl⟩
theorem ofNat_toNat (n : Nat) (h : n < 256) : (UInt8.ofNat n).toNat = n := by simp; omega
theorem and127 (m : Nat) (h : m < 9223372036854775808) : bits BinOp.and IntKind.i64 (m : Int) 127 = ((m % 128 : Nat) : Int) := by
  have := bits_mask .i64 63 (by decide) wraps_i64 7 (by decide) (m : Int) (by omega) (by omega)
  have e : (2 : Int) ^ 7 - 1 = 127 := by decide
  rw [e] at this
  rw [this]
  simp
theorem or128 (m : Nat) (h : m < 128) : bits BinOp.or IntKind.i64 (m : Int) 128 = ((128 + m : Nat) : Int) := by
  have e : bits BinOp.or IntKind.i64 (m : Int) 128 = bits BinOp.or IntKind.i64 128 (m : Int) := by
    unfold bits
    first | (simp only []; rw [BitVec.or_comm]) | (simp [BitVec.or_comm])
  rw [e, bits_join .i64 63 (by decide) wraps_i64 7 _ _ (by omega) (by omega) (by omega) (by omega) (by omega) (by omega)]
  omega
end Go.Proofs.YtfcenombphodbaaDoor
namespace Go.Proofs.YtfcenombphodbaaDoor
open Go.RowKit

def hN (h : Int) : Int := wrap64 (wrap64 (h * 6364136223846793005) + 1442695040888963407)
def xI (H : Int) : Int := bits BinOp.and IntKind.i64 (bits BinOp.xor IntKind.i64 (H / 8589934592) (H / 35184372088832)) 255
def xN (H : Int) : Nat := (xI H).toNat
theorem and255_lt (x : Int) : ∃ n : Nat, n < 256 ∧ bits BinOp.and IntKind.i64 x 255 = (n : Int) := by
  have h : bits BinOp.and IntKind.i64 x 255 = IntKind.i64.wrap ((BitVec.ofInt 64 x &&& BitVec.ofInt 64 255).toNat : Int) := rfl
  rw [h, BitVec.toNat_and]
  have e : (BitVec.ofInt 64 255).toNat = 2 ^ 8 - 1 := by decide
  rw [e, Nat.and_two_pow_sub_one_eq_mod]
  exact ⟨_, by omega, wraps_i64 _ (by omega) (by omega)⟩
theorem xI_xN (H : Int) : xI H = (xN H : Int) ∧ xN H < 256 := by
  obtain ⟨n, h1, h2⟩ := and255_lt (bits BinOp.xor IntKind.i64 (H / 8589934592) (H / 35184372088832))
  have : xI H = (n : Int) := h2
  unfold xN
  rw [this]
  exact ⟨by simp, by simpa using h1⟩
theorem and255 (n : Nat) (h : n < 9223372036854775808) : bits BinOp.and IntKind.i64 (n : Int) 255 = ((n % 256 : Nat) : Int) := by
  have := bits_mask .i64 63 (by decide) wraps_i64 8 (by decide) (n : Int) (by omega) (by omega)
  have e : (2 : Int) ^ 8 - 1 = 255 := by decide
  rw [e] at this
  rw [this]
  simp

/-- Where a cursor stands: the place of the next byte, and the mixed number. -/
structure Pos where
  i : Nat
  h : Int
def byteV (len : Nat) (cb : Nat → Nat) (p : Pos) : Nat := if p.i < len then (xN (hN p.h) + cb p.i) % 256 else xN (hN p.h)
def byteP (len : Nat) (p : Pos) : Pos := if p.i < len then ⟨p.i + 1, hN p.h⟩ else ⟨p.i, hN p.h⟩
theorem byteV_lt (len : Nat) (cb : Nat → Nat) (p : Pos) : byteV len cb p < 256 := by
  unfold byteV
  split
  · omega
  · exact (xI_xN _).2
theorem byteP_le (len : Nat) (p : Pos) (h : p.i ≤ len) : (byteP len p).i ≤ len := by
  unfold byteP
  split <;> simp only [] <;> omega
def belowV (len : Nat) (cb : Nat → Nat) (n : Nat) (p : Pos) : Nat :=
  if n ≤ 256 then byteV len cb p % n
  else (byteV len cb p * 16777216 + byteV len cb (byteP len p) * 65536 + byteV len cb (byteP len (byteP len p)) * 256 + byteV len cb (byteP len (byteP len (byteP len p)))) % n
def belowP (len : Nat) (n : Nat) (p : Pos) : Pos := if n ≤ 256 then byteP len p else byteP len (byteP len (byteP len (byteP len p)))
theorem belowV_lt (len : Nat) (cb : Nat → Nat) (n : Nat) (p : Pos) (h : 0 < n) : belowV len cb n p < n := by
  unfold belowV; split <;> exact Nat.mod_lt _ h
theorem belowP_le (len n : Nat) (p : Pos) (h : p.i ≤ len) : (belowP len n p).i ≤ len := by
  unfold belowP
  split
  · exact byteP_le _ _ h
  · exact byteP_le _ _ (byteP_le _ _ (byteP_le _ _ (byteP_le _ _ h)))
end Go.Proofs.YtfcenombphodbaaDoor
namespace Go.Proofs.YtfcenombphodbaaDoor
open Go.RowKit
set_option linter.unusedVariables false
set_option maxRecDepth 100000

theorem keep2 {w w' : World} {b : Nat} {o : Obj} (h : w.heap[b]? = some o) (hb : Below w.heap.size w w') : w'.heap[b]? = some o := by
  rw [hb.block b (lt_of_block h)]; exact h

/-- The code beside a cursor g: a slice of so many bytes, each where it should be, none of them in g. -/
structure Code (w : World) (g : Nat) (a : Option Addr) (len : Nat) (cb : Nat → Nat) : Prop where
  small : len ≤ 1048576
  byte : ∀ i, cb i < 256
  cell : ∀ i, i < len → ∃ b off, a = some ⟨b, off, none⟩ ∧ b ≠ g ∧ w.cell? ⟨b, off + i, none⟩ = some (.int .u8 (cb i : Nat))
theorem Code.on {w w' : World} {g : Nat} {a : Option Addr} {len : Nat} {cb : Nat → Nat} (h : Code w g a len cb) (hg : w.grownBy w' (some g)) : Code w' g a len cb :=
  ⟨h.small, h.byte, fun i hi => by
    obtain ⟨b, off, e, hne, hc⟩ := h.cell i hi
    exact ⟨b, off, e, hne, hg.cell hc (by simpa using hne)⟩⟩
/-- The cursor g stands at p over that code. -/
structure Cur (w : World) (g : Nat) (a : Option Addr) (len cap : Nat) (cb : Nat → Nat) (p : Pos) : Prop where
  code : Code w g a len cb
  le : p.i ≤ len
  obj : w.heap[g]? = some (.cells #[.slice a len cap, .int .i64 p.i, .int .i64 p.h] 68 (0, 0))
theorem grownBy_drewN {w w' : World} {g : Nat} (h : w.grownBy w' (some g)) (n : Nat) : w.grownBy (w'.drewN n) (some g) := ⟨h.os, h.tape, h.output, h.size, h.block⟩

set_option maxHeartbeats 400000 in
theorem byte_in (w : World) (g b off len cap i B X Y : Nat) (h H : Int) (hg : w.heap[g]? = some (.cells #[.slice (some ⟨b, off, none⟩) len cap, .int .i64 i, .int .i64 h] 68 (0, 0)))
    (hl : len ≤ 1048576) (hi : i < len) (hb : b ≠ g) (hB : B < 256) (hc : w.cell? ⟨b, off + i, none⟩ = some (.int .u8 (B : Nat)))
    (hH : wrap64 (wrap64 (h * 6364136223846793005) + 1442695040888963407) = H) (hX : bits BinOp.and IntKind.i64 (bits BinOp.xor IntKind.i64 (H / 8589934592) (H / 35184372088832)) 255 = (X : Int)) (hX2 : X < 256)
    (hY : bits BinOp.and IntKind.i64 ((X : Int) + (B : Int)) 255 = (Y : Int)) :
    Calls Tryd.prog 45 #[.pointer (some ⟨g, 0, none⟩)] w fun e w' => e = .returned (.int .i64 Y) ∧ w'.heap[g]? = some (.cells #[.slice (some ⟨b, off, none⟩) len cap, .int .i64 (i + 1 : Nat), .int .i64 H] 68 (0, 0)) ∧ w.grownBy w' (some g) := by
  have c0 : w.cell? ⟨g, 0, none⟩ = some (.slice (some ⟨b, off, none⟩) len cap) := by simp [World.cell?, hg]
  have c1 : w.cell? ⟨g, 1, none⟩ = some (.int .i64 i) := by simp [World.cell?, hg]
  have c2 : w.cell? ⟨g, 2, none⟩ = some (.int .i64 h) := by simp [World.cell?, hg]
  have f1 : w.frozen? ⟨g, 1, none⟩ = false := by simp [World.frozen?, hg]
  have f2 : w.frozen? ⟨g, 2, none⟩ = false := by simp [World.frozen?, hg]
  have HG : Hid (((w.setCell ⟨g, 2, none⟩ (.int .i64 H)).setCell ⟨g, 1, none⟩ (.int .i64 ((i : Int) + 1))).heap[g]? = some (.cells #[.slice (some ⟨b, off, none⟩) len cap, .int .i64 (i + 1 : Nat), .int .i64 H] 68 (0, 0))) := by
    have h1 := heap_setCell_same w g 2 _ 68 (.int .i64 H) hg
    have h2 := heap_setCell_same _ g 1 _ 68 (.int .i64 ((i : Int) + 1)) h1
    rw [Hid, h2]; simp
  clear hg
  go_enter Tryd.func45, Tryd.ntmps45
  go_wp2
  go_quiet (fail)
  go_wp2
  go_quiet (fail)
  go_wp2
  go_quiet (fail)
  go_wp2
  go_ret
  exact ⟨rfl, HG.out, grownBy_trans (grownBy_drewN (grownBy_set w g 2 _) _) (grownBy_set _ g 1 _)⟩

set_option maxHeartbeats 400000 in
theorem byte_out (w : World) (g len cap i X : Nat) (a : Option Addr) (h H : Int) (hg : w.heap[g]? = some (.cells #[.slice a len cap, .int .i64 i, .int .i64 h] 68 (0, 0)))
    (hl : len ≤ 1048576) (hi : ¬ i < len) (hi2 : i ≤ len)
    (hH : wrap64 (wrap64 (h * 6364136223846793005) + 1442695040888963407) = H) (hX : bits BinOp.and IntKind.i64 (bits BinOp.xor IntKind.i64 (H / 8589934592) (H / 35184372088832)) 255 = (X : Int)) (hX2 : X < 256) :
    Calls Tryd.prog 45 #[.pointer (some ⟨g, 0, none⟩)] w fun e w' => e = .returned (.int .i64 X) ∧ w'.heap[g]? = some (.cells #[.slice a len cap, .int .i64 i, .int .i64 H] 68 (0, 0)) ∧ w.grownBy w' (some g) := by
  have c0 : w.cell? ⟨g, 0, none⟩ = some (.slice a len cap) := by simp [World.cell?, hg]
  have c1 : w.cell? ⟨g, 1, none⟩ = some (.int .i64 i) := by simp [World.cell?, hg]
  have c2 : w.cell? ⟨g, 2, none⟩ = some (.int .i64 h) := by simp [World.cell?, hg]
  have f2 : w.frozen? ⟨g, 2, none⟩ = false := by simp [World.frozen?, hg]
  have HG : Hid ((w.setCell ⟨g, 2, none⟩ (.int .i64 H)).heap[g]? = some (.cells #[.slice a len cap, .int .i64 i, .int .i64 H] 68 (0, 0))) := by
    have h1 := heap_setCell_same w g 2 _ 68 (.int .i64 H) hg
    rw [Hid, h1]; simp
  have HR : Hid (w.grownBy (w.setCell ⟨g, 2, none⟩ (.int .i64 H)) (some g)) := grownBy_set w g 2 _
  clear hg
  go_enter Tryd.func45, Tryd.ntmps45
  go_wp2
  go_quiet (fail)
  go_wp2
  go_quiet (fail)
  go_wp2
  go_ret
  exact ⟨rfl, HG.out, grownBy_drewN (grownBy_drewN HR.out _) _⟩

theorem byte_any (w : World) (g len cap : Nat) (a : Option Addr) (cb : Nat → Nat) (p : Pos) (hc : Cur w g a len cap cb p) :
    Calls Tryd.prog 45 #[.pointer (some ⟨g, 0, none⟩)] w fun e w' => e = .returned (.int .i64 (byteV len cb p : Nat)) ∧ Cur w' g a len cap cb (byteP len p) ∧ w.grownBy w' (some g) := by
  have hx := xI_xN (hN p.h)
  by_cases hi : p.i < len
  · obtain ⟨b, off, rfl, hne, hcell⟩ := hc.code.cell p.i hi
    have hB := hc.code.byte p.i
    refine (byte_in w g b off len cap p.i (cb p.i) (xN (hN p.h)) ((xN (hN p.h) + cb p.i) % 256) p.h (hN p.h) hc.obj hc.code.small hi hne hB hcell rfl hx.1 hx.2 ?_).mono ?_
    · have := and255 (xN (hN p.h) + cb p.i) (by omega)
      simpa using this
    · rintro e w' ⟨rfl, h1, h2⟩
      have e1 : byteV len cb p = (xN (hN p.h) + cb p.i) % 256 := if_pos hi
      have e2 : byteP len p = ⟨p.i + 1, hN p.h⟩ := if_pos hi
      rw [e1, e2]
      exact ⟨rfl, ⟨hc.code.on h2, hi, h1⟩, h2⟩
  · refine (byte_out w g len cap p.i (xN (hN p.h)) a p.h (hN p.h) hc.obj hc.code.small hi hc.le rfl hx.1 hx.2).mono ?_
    rintro e w' ⟨rfl, h1, h2⟩
    have e1 : byteV len cb p = xN (hN p.h) := if_neg hi
    have e2 : byteP len p = ⟨p.i, hN p.h⟩ := if_neg hi
    rw [e1, e2]
    exact ⟨rfl, ⟨hc.code.on h2, hc.le, h1⟩, h2⟩

set_option maxHeartbeats 400000 in
theorem below_small (w : World) (g len cap n : Nat) (a : Option Addr) (cb : Nat → Nat) (p : Pos) (hc : Cur w g a len cap cb p) (h0 : 0 < n) (h1 : n ≤ 256) :
    Calls Tryd.prog 16 #[.pointer (some ⟨g, 0, none⟩), .int .i64 n] w fun e w' => e = .returned (.int .i64 (belowV len cb n p : Nat)) ∧ Cur w' g a len cap cb (belowP len n p) ∧ w.grownBy w' (some g) := by
  have e1 : belowV len cb n p = byteV len cb p % n := if_pos h1
  have e2 : belowP len n p = byteP len p := if_pos h1
  rw [e1, e2]
  have hb := byteV_lt len cb p
  have c := byte_any w g len cap a cb p hc
  generalize byteV len cb p = x at *
  generalize byteP len p = p1 at *
  clear e1 e2 hc
  go_enter Tryd.func16, Tryd.ntmps16
  go_wp2_with fail
  refine c.mono ?_
  rintro e w1 ⟨rfl, hc1, hg1⟩
  have HC : Hid (Cur w1 g a len cap cb p1) := hc1
  clear c hc1
  go_wp2
  go_ret
  exact ⟨by go_num, HC.out, hg1⟩

set_option maxHeartbeats 400000 in
theorem below_great (w : World) (g len cap n : Nat) (a : Option Addr) (cb : Nat → Nat) (p : Pos) (hc : Cur w g a len cap cb p) (h1 : ¬ n ≤ 256) (hn : n ≤ 4294967296) :
    Calls Tryd.prog 16 #[.pointer (some ⟨g, 0, none⟩), .int .i64 n] w fun e w' => e = .returned (.int .i64 (belowV len cb n p : Nat)) ∧ Cur w' g a len cap cb (belowP len n p) ∧ w.grownBy w' (some g) := by
  have e1 : belowV len cb n p = (byteV len cb p * 16777216 + byteV len cb (byteP len p) * 65536 + byteV len cb (byteP len (byteP len p)) * 256 + byteV len cb (byteP len (byteP len (byteP len p)))) % n := if_neg h1
  have e2 : belowP len n p = byteP len (byteP len (byteP len (byteP len p))) := if_neg h1
  rw [e1, e2]
  have b0 := byteV_lt len cb p
  have b1 := byteV_lt len cb (byteP len p)
  have b2 := byteV_lt len cb (byteP len (byteP len p))
  have b3 := byteV_lt len cb (byteP len (byteP len (byteP len p)))
  have c0 := byte_any w g len cap a cb p hc
  have c1 := fun w hc => byte_any w g len cap a cb (byteP len p) hc
  have c2 := fun w hc => byte_any w g len cap a cb (byteP len (byteP len p)) hc
  have c3 := fun w hc => byte_any w g len cap a cb (byteP len (byteP len (byteP len p))) hc
  generalize byteV len cb (byteP len (byteP len (byteP len p))) = x3 at *
  generalize byteP len (byteP len (byteP len (byteP len p))) = p4 at *
  generalize byteV len cb (byteP len (byteP len p)) = x2 at *
  generalize byteP len (byteP len (byteP len p)) = p3 at *
  generalize byteV len cb (byteP len p) = x1 at *
  generalize byteP len (byteP len p) = p2 at *
  generalize byteV len cb p = x0 at *
  generalize byteP len p = p1 at *
  have C1 : Hid (∀ w, Cur w g a len cap cb p1 → _) := c1
  have C2 : Hid (∀ w, Cur w g a len cap cb p2 → _) := c2
  have C3 : Hid (∀ w, Cur w g a len cap cb p3 → _) := c3
  clear e1 e2 hc c1 c2 c3
  go_enter Tryd.func16, Tryd.ntmps16
  go_wp2_with fail
  refine c0.mono ?_
  rintro e w1 ⟨rfl, hc1, hg1⟩
  have HC : Hid (Cur w1 g a len cap cb p1) := hc1
  clear c0 hc1
  go_wp2_with fail
  refine (C1.out w1 HC.out).mono ?_
  rintro e w2 ⟨rfl, hc1, hg2⟩
  clear C1 HC
  have HC : Hid (Cur w2 g a len cap cb p2) := hc1
  clear hc1
  go_wp2_with fail
  refine (C2.out w2 HC.out).mono ?_
  rintro e w3 ⟨rfl, hc1, hg3⟩
  clear C2 HC
  have HC : Hid (Cur w3 g a len cap cb p3) := hc1
  clear hc1
  go_wp2_with fail
  refine (C3.out w3 HC.out).mono ?_
  rintro e w4 ⟨rfl, hc1, hg4⟩
  clear C3 HC
  have HC : Hid (Cur w4 g a len cap cb p4) := hc1
  clear hc1
  go_wp2
  go_ret
  exact ⟨by go_num, HC.out, grownBy_trans (grownBy_trans hg1 hg2) (grownBy_trans hg3 hg4)⟩

theorem below_any (w : World) (g len cap n : Nat) (a : Option Addr) (cb : Nat → Nat) (p : Pos) (hc : Cur w g a len cap cb p) (h0 : 0 < n) (hn : n ≤ 4294967296) :
    Calls Tryd.prog 16 #[.pointer (some ⟨g, 0, none⟩), .int .i64 n] w fun e w' => e = .returned (.int .i64 (belowV len cb n p : Nat)) ∧ Cur w' g a len cap cb (belowP len n p) ∧ w.grownBy w' (some g) := by
  by_cases h : n ≤ 256
  · exact below_small w g len cap n a cb p hc h0 h
  · exact below_great w g len cap n a cb p hc h hn

set_option maxHeartbeats 400000 in
theorem once_any (w : World) (g len cap n : Nat) (a : Option Addr) (cb : Nat → Nat) (p : Pos) (hc : Cur w g a len cap cb p) (h0 : 0 < n) (hn : n ≤ 4294967296) :
    Calls Tryd.prog 68 #[.pointer (some ⟨g, 0, none⟩), .int .i64 n] w fun e w' => e = .returned (.bool ((belowV len cb n p : Int) == 0)) ∧ Cur w' g a len cap cb (belowP len n p) ∧ w.grownBy w' (some g) := by
  have c := below_any w g len cap n a cb p hc h0 hn
  generalize belowV len cb n p = x at *
  generalize belowP len n p = p1 at *
  clear hc
  go_enter Tryd.func68, Tryd.ntmps68
  go_wp2_with fail
  refine c.mono ?_
  rintro e w1 ⟨rfl, hc1, hg1⟩
  have HC : Hid (Cur w1 g a len cap cb p1) := hc1
  clear c hc1
  go_wp2
  go_ret
  exact ⟨rfl, HC.out, hg1⟩
end Go.Proofs.YtfcenombphodbaaDoor
namespace Go.Proofs.YtfcenombphodbaaDoor
open Go.RowKit
set_option linter.unusedVariables false
set_option maxRecDepth 100000

def hashN (cb : Nat → Nat) (s : Nat) : Nat → Nat
  | 0 => s
  | k + 1 => (hashN cb s k * 131 + cb k + 7) % 1073741824
theorem hashN_lt (cb : Nat → Nat) (s : Nat) (hs : s < 1073741824) (k : Nat) : hashN cb s k < 1073741824 := by
  cases k with
  | zero => exact hs
  | succ k => exact Nat.mod_lt _ (by decide)
def start (cb : Nat → Nat) (len : Nat) : Pos := ⟨0, (hashN cb (10101 + len) (min len 4000) : Nat)⟩
theorem mask30 (n : Nat) (h : n < 9223372036854775808) : bits BinOp.and IntKind.i64 (n : Int) 1073741823 = ((n % 1073741824 : Nat) : Int) := by
  have := bits_mask .i64 63 (by decide) wraps_i64 30 (by decide) (n : Int) (by omega) (by omega)
  have e : (2 : Int) ^ 30 - 1 = 1073741823 := by decide
  rw [e] at this
  rw [this]
  simp

/-- The code as it came in. -/
structure Code0 (w : World) (a : Option Addr) (len : Nat) (cb : Nat → Nat) : Prop where
  small : len ≤ 1048576
  byte : ∀ i, cb i < 256
  cell : ∀ i, i < len → ∃ b off, a = some ⟨b, off, none⟩ ∧ b < w.heap.size ∧ w.cell? ⟨b, off + i, none⟩ = some (.int .u8 (cb i : Nat))
theorem Code0.on {w w' : World} {a : Option Addr} {len : Nat} {cb : Nat → Nat} (h : Code0 w a len cb) (hb : Below w.heap.size w w') : Code0 w' a len cb :=
  ⟨h.small, h.byte, fun i hi => by
    obtain ⟨b, off, e, hlt, hc⟩ := h.cell i hi
    exact ⟨b, off, e, Nat.lt_of_lt_of_le hlt hb.size, by rw [hb.cell (p := ⟨b, off + i, none⟩) hlt]; exact hc⟩⟩

set_option maxRecDepth 100000 in
set_option maxHeartbeats 400000 in
theorem new_any (w : World) (a : Option Addr) (len cap : Nat) (cb : Nat → Nat) (hc : Code0 w a len cb) :
    Calls Tryd.prog 14 #[.slice a len cap] w fun e w' => e = .returned (.pointer (some ⟨w.heap.size, 0, none⟩)) ∧ Cur w' w.heap.size a len cap cb (start cb len) ∧ Below w.heap.size w w' := by
  have hl := hc.small
  have HC : Hid (Code0 w a len cb) := hc
  have hs0 := hashN_lt cb (10101 + len) (by omega)
  clear hc
  go_enter Tryd.func14, Tryd.ntmps14
  go_wp2
  go_loop [3, 4] (fun h i => ∃ k H : Nat, k ≤ 4000 ∧ k ≤ len ∧ i = .int .i64 k ∧ h = .int .i64 H ∧ H < 1073741824 ∧ Hid (H = hashN cb (10101 + len) k)) (fun _ i => 4000 - (intOf i).toNat)
  case atStart => exact ⟨0, 10101 + len, by omega, by omega, rfl, by go_num, by omega, rfl⟩
  case round =>
    obtain ⟨k, H, hk, hkl, rfl, rfl, hH, HH⟩ := hrel
    clear hs0
    by_cases hlt : k < len ∧ k < 4000
    · obtain ⟨hlt1, hlt2⟩ := hlt
      obtain ⟨b, off, rfl, hbs, hcell⟩ := HC.out.cell k hlt1
      obtain ⟨B, hB⟩ : ∃ B, B = cb k := ⟨_, rfl⟩
      have hB2 : B < 256 := by rw [hB]; exact HC.out.byte k
      rw [← hB] at hcell
      have HB : Hid (B = cb k) := hB
      have hm := mask30 (H * 131 + B + 7) (by omega)
      rw [show ((H * 131 + B + 7 : Nat) : Int) = (H : Int) * 131 + (B : Int) + 7 by omega] at hm
      obtain ⟨H', hH'⟩ : ∃ H' : Nat, H' = (H * 131 + B + 7) % 1073741824 := ⟨_, rfl⟩
      rw [← hH'] at hm
      have hH2 : H' < 1073741824 := by rw [hH']; exact Nat.mod_lt _ (by decide)
      have HH' : Hid (H' = hashN cb (10101 + len) (k + 1)) := by show _ = _; rw [hH', HB.out, HH.out]; rfl
      clear hB hH' HH HB
      go_wp2
      exact ⟨⟨k + 1, H', by omega, by omega, by go_num, rfl, hH2, HH'.out⟩, by simp [intOf]; omega⟩
    · have hkm : k = min len 4000 := by omega
      have HS : Hid ((start cb len) = ⟨0, (H : Int)⟩) := by show _ = _; unfold start; rw [← hkm, ← HH.out]
      clear hkm HH
      by_cases h1 : k < len
      · have h2 : ¬ k < 4000 := by omega
        clear hlt
        go_wp2
        go_ret
        rw [HS.out]
        refine ⟨rfl, ⟨⟨HC.out.small, HC.out.byte, fun i hi => ?_⟩, by simp, heap_alloc_new w _⟩, (Below.refl _ _).alloc (Nat.le_refl _) _⟩
        obtain ⟨b, off, rfl, hbs, hcell⟩ := HC.out.cell i hi
        exact ⟨b, off, rfl, by omega, by rw [((Below.refl w.heap.size w).alloc (Nat.le_refl _) _).cell (p := ⟨b, off + i, none⟩) hbs]; exact hcell⟩
      · clear hlt
        go_wp2
        go_ret
        rw [HS.out]
        refine ⟨rfl, ⟨⟨HC.out.small, HC.out.byte, fun i hi => ?_⟩, by simp, heap_alloc_new w _⟩, (Below.refl _ _).alloc (Nat.le_refl _) _⟩
        obtain ⟨b, off, rfl, hbs, hcell⟩ := HC.out.cell i hi
        exact ⟨b, off, rfl, by omega, by rw [((Below.refl w.heap.size w).alloc (Nat.le_refl _) _).cell (p := ⟨b, off + i, none⟩) hbs]; exact hcell⟩

theorem Cur.alloc {w : World} {g len cap : Nat} {a : Option Addr} {cb : Nat → Nat} {p : Pos} (h : Cur w g a len cap cb p) (o : Obj) : Cur (w.alloc o) g a len cap cb p :=
  ⟨h.code.on (World.grownBy_alloc w o (some g)), h.le, by rw [Below.heap_alloc w o g (lt_of_block h.obj)]; exact h.obj⟩

set_option maxHeartbeats 400000 in
theorem pick_any (w : World) (g m len cap : Nat) (a : Option Addr) (cb : Nat → Nat) (p : Pos) (ns : List Int) (n : Nat) (hn : ns.length = n) (h0 : 0 < n) (hn2 : n ≤ 256) (hc : Cur w g a len cap cb p) (hm : m ≠ g)
    (hl : w.heap[m]? = some (.cells (ns.map (Value.int .i64)).toArray 3 (0, 0))) :
    Calls Tryd.prog 46 #[.pointer (some ⟨g, 0, none⟩), .slice (some ⟨m, 0, none⟩) n n] w fun e w' => e = .returned (.int .i64 (ns.getD (belowV len cb n p) 0)) ∧ Cur w' g a len cap cb (belowP len n p) ∧ w.grownBy w' (some g) := by
  have c := below_any w g len cap n a cb p hc h0 (by omega)
  have hx := belowV_lt len cb n p h0
  generalize belowV len cb n p = x at *
  generalize belowP len n p = p1 at *
  have hcell : w.cell? ⟨m, x, none⟩ = some (.int .i64 (ns.getD x 0)) := by
    simp only [World.cell?, hl]
    simp [List.getD, show x < ns.length by omega]
  generalize ns.getD x 0 = r at *
  clear hc hl hn
  go_enter Tryd.func46, Tryd.ntmps46
  go_wp2_with fail
  refine c.mono ?_
  rintro e w1 ⟨rfl, hc1, hg1⟩
  have hcell1 := hg1.cell hcell (by simpa using hm)
  have HC : Hid (Cur w1 g a len cap cb p1) := hc1
  clear c hc1 hcell
  go_wp2
  go_ret
  exact ⟨rfl, HC.out, hg1⟩


end Go.Proofs.YtfcenombphodbaaDoor
namespace Go.Proofs.YtfcenombphodbaaDoor
open Go.RowKit
set_option linter.unusedVariables false
set_option maxRecDepth 100000

/-- A cursor that is right; it and its code lie below s. -/
def CurE (w : World) (g s : Nat) : Prop :=
  ∃ a len cap cb p, Cur w g a len cap cb p ∧ g < s ∧ ∀ b off, 0 < len → a = some ⟨b, off, none⟩ → b < s
theorem CurE.keep {w w' : World} {g s : Nat} (h : CurE w g s) (hk : ∀ k, k < s → w'.heap[k]? = w.heap[k]?) : CurE w' g s := by
  obtain ⟨a, len, cap, cb, p, hc, hg, hb⟩ := h
  refine ⟨a, len, cap, cb, p, ⟨⟨hc.code.small, hc.code.byte, fun i hi => ?_⟩, hc.le, ?_⟩, hg, hb⟩
  · obtain ⟨b, off, ha, hne, hcell⟩ := hc.code.cell i hi
    refine ⟨b, off, ha, hne, ?_⟩
    have := hk b (hb b off (by omega) ha)
    simp only [World.cell?, this] at hcell ⊢
    exact hcell
  · rw [hk g hg]; exact hc.obj
theorem CurE.below {w w' : World} {g s : Nat} (h : CurE w g s) (hb : Below s w w') : CurE w' g s := h.keep fun k hk => hb.block k hk
theorem CurE.drew {w : World} {g s : Nat} (h : CurE w g s) : CurE w.drew g s := h.keep fun k _ => rfl
theorem CurE.alloc {w : World} {g s : Nat} (h : CurE w g s) (o : Obj) (hs : s ≤ w.heap.size) : CurE (w.alloc o) g s := h.below ((Below.refl _ _).alloc hs _)
theorem CurE.set {w : World} {g s : Nat} (h : CurE w g s) (B i : Nat) (v : Value) (hB : s ≤ B) : CurE (w.setCell ⟨B, i, none⟩ v) g s := h.below ((Below.refl _ _).setCell hB _)
theorem curE_wide {w : World} {g s s' : Nat} (h : CurE w g s) (hs : s ≤ s') : CurE w g s' := by
  obtain ⟨a, len, cap, cb, p, hc, hg, hb⟩ := h
  exact ⟨a, len, cap, cb, p, hc, by omega, fun b off h1 h2 => by have := hb b off h1 h2; omega⟩
theorem CurE.lt {w : World} {g s : Nat} (h : CurE w g s) : g < s := by
  obtain ⟨a, len, cap, cb, p, hc, hg, hb⟩ := h
  exact hg
theorem belowE (w : World) (g s n : Nat) (h : CurE w g s) (h0 : 0 < n) (hn : n ≤ 4294967296) :
    Calls Tryd.prog 16 #[.pointer (some ⟨g, 0, none⟩), .int .i64 n] w fun e w' => ∃ v : Nat, e = .returned (.int .i64 (v : Int)) ∧ v < n ∧ CurE w' g s ∧ w.grownBy w' (some g) := by
  obtain ⟨a, len, cap, cb, p, hc, hg, hb⟩ := h
  refine (below_any w g len cap n a cb p hc h0 hn).mono ?_
  rintro e w' ⟨rfl, hc', hgr⟩
  exact ⟨_, rfl, belowV_lt len cb n p h0, ⟨a, len, cap, cb, _, hc', hg, hb⟩, hgr⟩
theorem onceE (w : World) (g s n : Nat) (h : CurE w g s) (h0 : 0 < n) (hn : n ≤ 4294967296) :
    Calls Tryd.prog 68 #[.pointer (some ⟨g, 0, none⟩), .int .i64 n] w fun e w' => ∃ v : Bool, e = .returned (.bool v) ∧ CurE w' g s ∧ w.grownBy w' (some g) := by
  obtain ⟨a, len, cap, cb, p, hc, hg, hb⟩ := h
  refine (once_any w g len cap n a cb p hc h0 hn).mono ?_
  rintro e w' ⟨rfl, hc', hgr⟩
  exact ⟨_, rfl, ⟨a, len, cap, cb, _, hc', hg, hb⟩, hgr⟩
theorem pickE (w : World) (g s m : Nat) (ns : List Int) (n : Nat) (hn : ns.length = n) (h0 : 0 < n) (hn2 : n ≤ 256) (h : CurE w g s) (hm : s ≤ m) (hl : w.heap[m]? = some (.cells (ns.map (Value.int .i64)).toArray 3 (0, 0))) :
    Calls Tryd.prog 46 #[.pointer (some ⟨g, 0, none⟩), .slice (some ⟨m, 0, none⟩) n n] w fun e w' => ∃ v : Int, e = .returned (.int .i64 v) ∧ CurE w' g s ∧ w.grownBy w' (some g) := by
  obtain ⟨a, len, cap, cb, p, hc, hg, hb⟩ := h
  refine (pick_any w g m len cap a cb p ns n hn h0 hn2 hc (by omega) hl).mono ?_
  rintro e w' ⟨rfl, hc', hgr⟩
  exact ⟨_, rfl, ⟨a, len, cap, cb, _, hc', hg, hb⟩, hgr⟩
theorem newE (w : World) (a : Option Addr) (len cap : Nat) (cb : Nat → Nat) (hc : Code0 w a len cb) :
    Calls Tryd.prog 14 #[.slice a len cap] w fun e w' => e = .returned (.pointer (some ⟨w.heap.size, 0, none⟩)) ∧ CurE w' w.heap.size w'.heap.size ∧ Below w.heap.size w w' := by
  refine (new_any w a len cap cb hc).mono ?_
  rintro e w' ⟨rfl, hc', hb⟩
  refine ⟨rfl, ⟨a, len, cap, cb, _, hc', lt_of_block hc'.obj, fun b off h0 ha => ?_⟩, hb⟩
  obtain ⟨b', off', ha', hne, hcell⟩ := hc'.code.cell 0 h0
  rw [ha] at ha'
  simp at ha'
  have := World.block_lt_of_cell? w' _ hcell
  simp at this
  omega

/-- A call of l1Below inside a region that draws. -/
theorem step_below {ops : Array Oper} {o : Oper} {a : Act} {w : World} {K : Act → World → Prop} {Q : Exit → Act → World → Prop} {E : Prop} (hgd : o.guard = none) (x : Operand) (n : Nat)
    (ho : o.op = .call { callee := .value (.func 16), args := #[x, .const (.int .i64 n)], argTypes := #[43, 3] }) (g s : Nat) (hx : a.eval x = .pointer (some ⟨g, 0, none⟩)) (hc : CurE w g s) (h0 : 0 < n) (hn : n ≤ 256)
    (hK : ∀ (v : Nat) w', v < n → Hid (CurE w' g s) → Hid (w.grownBy w' (some g)) → K (a.put o.dst (.int .i64 (v : Int))) w') : if Region.wanted o (yielded ops a.tmps) = true then Oper.wp Tryd.prog o a w K Q else E := by
  have hw : Region.wanted o (yielded ops a.tmps) = true := by simp [Region.wanted, hgd]
  rw [if_pos hw]
  have h := belowE w g s n hc h0 (by omega)
  unfold Oper.wp
  simp [execOp, ho, resolve, hx, Result.andThen]
  go_simp
  refine h.mono ?_
  rintro e w' ⟨v, rfl, hv, hc', hgr⟩
  exact hK v w' hv hc' hgr
end Go.Proofs.YtfcenombphodbaaDoor
namespace Go.Proofs.YtfcenombphodbaaDoor
open Go.RowKit
set_option linter.unusedVariables false
set_option maxRecDepth 100000

set_option maxHeartbeats 400000 in
theorem big_yes (w : World) (a : Option Addr) (len cap : Nat) (h : (1048576 : Int) < (len : Int)) :
    Calls Tryd.prog 4 #[.slice a len cap] w fun e w' => e = .returned (.bool true) ∧ w = w' := by
  go_enter Tryd.func4, Tryd.ntmps4
  go_wp2
  go_ret
  exact ⟨by simp, rfl⟩
set_option maxHeartbeats 400000 in
theorem big_no (w : World) (a : Option Addr) (len cap : Nat) (h : ¬ (1048576 : Int) < (len : Int)) :
    Calls Tryd.prog 4 #[.slice a len cap] w fun e w' => e = .returned (.bool false) ∧ w = w' := by
  go_enter Tryd.func4, Tryd.ntmps4
  go_wp2
  go_ret
  exact ⟨by simp, rfl⟩
end Go.Proofs.YtfcenombphodbaaDoor
