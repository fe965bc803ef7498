/-
  The draws of chapter 1's law, second part: a new cursor, a pick from a list, a number.
-/
import Derived.Test.YtkjabochhhalhacDoorDraw
namespace Go.Proofs.YtkjabochhhalhacDoor
open Go.RowKit
set_option linter.unusedVariables false

def hashN (cb : Nat → Nat) (s : Nat) : Nat → Nat
  | 0 => s
  | k + 1 => (hashN cb s k * 131 + cb k + 7) % 1073741824
theorem hashN_lt (cb : Nat → Nat) (s : Nat) (hs : s < 1073741824) (k : Nat) : hashN cb s k < 1073741824 := by
  cases k with
  | zero => exact hs
  | succ k => exact Nat.mod_lt _ (by decide)
def start (cb : Nat → Nat) (len : Nat) : Pos := ⟨0, (hashN cb (10101 + len) (min len 4000) : Nat)⟩
theorem mask30 (n : Nat) (h : n < 9223372036854775808) : bits BinOp.and IntKind.i64 (n : Int) 1073741823 = ((n % 1073741824 : Nat) : Int) := by
  have := bits_mask .i64 63 (by decide) wraps_i64 30 (by decide) (n : Int) (by omega) (by omega)
  have e : (2 : Int) ^ 30 - 1 = 1073741823 := by decide
  rw [e] at this
  rw [this]
  simp

/-- The code as it came in. -/
structure Code0 (w : World) (a : Option Addr) (len : Nat) (cb : Nat → Nat) : Prop where
  small : len ≤ 1048576
  byte : ∀ i, cb i < 256
  cell : ∀ i, i < len → ∃ b off, a = some ⟨b, off, none⟩ ∧ b < w.heap.size ∧ w.cell? ⟨b, off + i, none⟩ = some (.int .u8 (cb i : Nat))
theorem Code0.on {w w' : World} {a : Option Addr} {len : Nat} {cb : Nat → Nat} (h : Code0 w a len cb) (hb : Below w.heap.size w w') : Code0 w' a len cb :=
  ⟨h.small, h.byte, fun i hi => by
    obtain ⟨b, off, e, hlt, hc⟩ := h.cell i hi
    exact ⟨b, off, e, Nat.lt_of_lt_of_le hlt hb.size, by rw [hb.cell (p := ⟨b, off + i, none⟩) hlt]; exact hc⟩⟩

set_option maxRecDepth 100000 in
set_option maxHeartbeats 400000 in
theorem new_any (w : World) (a : Option Addr) (len cap : Nat) (cb : Nat → Nat) (hc : Code0 w a len cb) :
    Calls Tryd.prog 16 #[.slice a len cap] w fun e w' => e = .returned (.pointer (some ⟨w.heap.size, 0, none⟩)) ∧ Cur w' w.heap.size a len cap cb (start cb len) ∧ Below w.heap.size w w' := by
  have hl := hc.small
  have HC : Hid (Code0 w a len cb) := hc
  have hs0 := hashN_lt cb (10101 + len) (by omega)
  clear hc
  go_enter Tryd.func16, Tryd.ntmps16
  go_wp2
  go_loop [3, 4] (fun h i => ∃ k H : Nat, k ≤ 4000 ∧ k ≤ len ∧ i = .int .i64 k ∧ h = .int .i64 H ∧ H < 1073741824 ∧ Hid (H = hashN cb (10101 + len) k)) (fun _ i => 4000 - (intOf i).toNat)
  case atStart => exact ⟨0, 10101 + len, by omega, by omega, rfl, by go_num, by omega, rfl⟩
  case round =>
    obtain ⟨k, H, hk, hkl, rfl, rfl, hH, HH⟩ := hrel
    clear hs0
    by_cases hlt : k < len ∧ k < 4000
    · obtain ⟨hlt1, hlt2⟩ := hlt
      obtain ⟨b, off, rfl, hbs, hcell⟩ := HC.out.cell k hlt1
      obtain ⟨B, hB⟩ : ∃ B, B = cb k := ⟨_, rfl⟩
      have hB2 : B < 256 := by rw [hB]; exact HC.out.byte k
      rw [← hB] at hcell
      have HB : Hid (B = cb k) := hB
      have hm := mask30 (H * 131 + B + 7) (by omega)
      rw [show ((H * 131 + B + 7 : Nat) : Int) = (H : Int) * 131 + (B : Int) + 7 by omega] at hm
      obtain ⟨H', hH'⟩ : ∃ H' : Nat, H' = (H * 131 + B + 7) % 1073741824 := ⟨_, rfl⟩
      rw [← hH'] at hm
      have hH2 : H' < 1073741824 := by rw [hH']; exact Nat.mod_lt _ (by decide)
      have HH' : Hid (H' = hashN cb (10101 + len) (k + 1)) := by show _ = _; rw [hH', HB.out, HH.out]; rfl
      clear hB hH' HH HB
      go_wp2
      exact ⟨⟨k + 1, H', by omega, by omega, by go_num, rfl, hH2, HH'.out⟩, by simp [intOf]; omega⟩
    · have hkm : k = min len 4000 := by omega
      have HS : Hid ((start cb len) = ⟨0, (H : Int)⟩) := by show _ = _; unfold start; rw [← hkm, ← HH.out]
      clear hkm HH
      by_cases h1 : k < len
      · have h2 : ¬ k < 4000 := by omega
        clear hlt
        go_wp2
        go_ret
        rw [HS.out]
        refine ⟨rfl, ⟨⟨HC.out.small, HC.out.byte, fun i hi => ?_⟩, by simp, heap_alloc_new w _⟩, (Below.refl _ _).alloc (Nat.le_refl _) _⟩
        obtain ⟨b, off, rfl, hbs, hcell⟩ := HC.out.cell i hi
        exact ⟨b, off, rfl, by omega, by rw [((Below.refl w.heap.size w).alloc (Nat.le_refl _) _).cell (p := ⟨b, off + i, none⟩) hbs]; exact hcell⟩
      · clear hlt
        go_wp2
        go_ret
        rw [HS.out]
        refine ⟨rfl, ⟨⟨HC.out.small, HC.out.byte, fun i hi => ?_⟩, by simp, heap_alloc_new w _⟩, (Below.refl _ _).alloc (Nat.le_refl _) _⟩
        obtain ⟨b, off, rfl, hbs, hcell⟩ := HC.out.cell i hi
        exact ⟨b, off, rfl, by omega, by rw [((Below.refl w.heap.size w).alloc (Nat.le_refl _) _).cell (p := ⟨b, off + i, none⟩) hbs]; exact hcell⟩

theorem Cur.alloc {w : World} {g len cap : Nat} {a : Option Addr} {cb : Nat → Nat} {p : Pos} (h : Cur w g a len cap cb p) (o : Obj) : Cur (w.alloc o) g a len cap cb p :=
  ⟨h.code.on (World.grownBy_alloc w o (some g)), h.le, by rw [Below.heap_alloc w o g (lt_of_block h.obj)]; exact h.obj⟩

set_option maxHeartbeats 400000 in
theorem pick_any (w : World) (g m len cap : Nat) (a : Option Addr) (cb : Nat → Nat) (p : Pos) (ns : List Int) (n : Nat) (hn : ns.length = n) (h0 : 0 < n) (hn2 : n ≤ 256) (hc : Cur w g a len cap cb p) (hm : m ≠ g)
    (hl : w.heap[m]? = some (.cells (ns.map (Value.int .i64)).toArray 3 (0, 0))) :
    Calls Tryd.prog 28 #[.pointer (some ⟨g, 0, none⟩), .slice (some ⟨m, 0, none⟩) n n] w fun e w' => e = .returned (.int .i64 (ns.getD (belowV len cb n p) 0)) ∧ Cur w' g a len cap cb (belowP len n p) ∧ w.grownBy w' (some g) := by
  have c := below_any w g len cap n a cb p hc h0 (by omega)
  have hx := belowV_lt len cb n p h0
  generalize belowV len cb n p = x at *
  generalize belowP len n p = p1 at *
  have hcell : w.cell? ⟨m, x, none⟩ = some (.int .i64 (ns.getD x 0)) := by
    simp only [World.cell?, hl]
    simp [List.getD, show x < ns.length by omega]
  generalize ns.getD x 0 = r at *
  clear hc hl hn
  go_enter Tryd.func28, Tryd.ntmps28
  go_wp2_with fail
  refine c.mono ?_
  rintro e w1 ⟨rfl, hc1, hg1⟩
  have hcell1 := hg1.cell hcell (by simpa using hm)
  have HC : Hid (Cur w1 g a len cap cb p1) := hc1
  clear c hc1 hcell
  go_wp2
  go_ret
  exact ⟨rfl, HC.out, hg1⟩

/-- The limits from which a number is picked. -/
def limits : List Int := [-1, 0, 127, 128, 255, 256, 16383, 16384, 65535, 65536, 562949953421311, 562949953421312, 999999999, 1000000000, -999999999, 9223372036854775807, -9223372036854775808]
def numV (len : Nat) (cb : Nat → Nat) (p : Pos) : Int :=
  let q := belowP len 8 p
  if belowV len cb 8 p = 0 then limits.getD (belowV len cb 17 q) 0
  else if belowV len cb 8 p = 1 then (belowV len cb 1000000000 q : Int) * (belowV len cb 1000000000 (belowP len 1000000000 q) : Int)
  else if belowV len cb 8 p = 2 then -(belowV len cb 100000 q : Int)
  else (belowV len cb 70000 q : Int)
def numP (len : Nat) (cb : Nat → Nat) (p : Pos) : Pos :=
  let q := belowP len 8 p
  if belowV len cb 8 p = 0 then belowP len 17 q
  else if belowV len cb 8 p = 1 then belowP len 1000000000 (belowP len 1000000000 q)
  else if belowV len cb 8 p = 2 then belowP len 100000 q
  else belowP len 70000 q

set_option maxRecDepth 100000 in
set_option maxHeartbeats 1000000 in
theorem num_any (w : World) (g len cap : Nat) (a : Option Addr) (cb : Nat → Nat) (p : Pos) (hc : Cur w g a len cap cb p) :
    Calls Tryd.prog 17 #[.pointer (some ⟨g, 0, none⟩)] w fun e w' => e = .returned (.int .i64 (numV len cb p)) ∧ Cur w' g a len cap cb (numP len cb p) ∧ w.grownBy w' (some g) := by
  have c := below_any w g len cap 8 a cb p hc (by omega) (by omega)
  have hx := belowV_lt len cb 8 p (by omega)
  have hgs : g < w.heap.size := lt_of_block hc.obj
  clear hc
  obtain ⟨v, hv⟩ : ∃ v, v = belowV len cb 8 p := ⟨_, rfl⟩
  obtain ⟨q, hq⟩ : ∃ q, q = belowP len 8 p := ⟨_, rfl⟩
  rw [← hv] at hx
  rw [← hv, ← hq] at c
  rcases (show v = 0 ∨ v = 1 ∨ v = 2 ∨ 2 < v by omega) with h | h | h | h
  · have e1 : numV len cb p = limits.getD (belowV len cb 17 q) 0 := by rw [hq]; exact if_pos (hv ▸ h)
    have e2 : numP len cb p = belowP len 17 q := by rw [hq]; exact if_pos (hv ▸ h)
    rw [e1, e2]
    rw [h] at c
    have c0 := fun w m h1 h2 h3 => pick_any w g m len cap a cb q limits 17 rfl (by omega) (by omega) h1 h2 h3
    generalize limits.getD (belowV len cb 17 q) 0 = r at *
    generalize belowP len 17 q = q1 at *
    have C0 : Hid (∀ w m, Cur w g a len cap cb q → m ≠ g → w.heap[m]? = some (.cells (limits.map (Value.int .i64)).toArray 3 (0, 0)) → _) := c0
    clear hv hq h hx e1 e2 c0
    go_enter Tryd.func17, Tryd.ntmps17
    go_wp2_with fail
    refine c.mono ?_
    rintro e w1 ⟨rfl, hc1, hg1⟩
    have HC : Hid (Cur w1 g a len cap cb q) := hc1
    clear c hc1
    have hs1 := hg1.size
    go_wp2_with fail
    refine (C0.out _ w1.heap.size (HC.out.alloc _) (by omega) (heap_alloc_new w1 _)).mono ?_
    rintro e w2 ⟨rfl, hc2, hg2⟩
    have HC2 : Hid (Cur w2 g a len cap cb q1) := hc2
    have hga := grownBy_trans (World.grownBy_alloc w1 _ (some g)) hg2
    clear C0 HC hc2 hg2
    go_wp2
    go_ret
    exact ⟨rfl, HC2.out, grownBy_trans hg1 hga⟩
  · have n0 : ¬ belowV len cb 8 p = 0 := by omega
    have e1 : numV len cb p = (belowV len cb 1000000000 q : Int) * (belowV len cb 1000000000 (belowP len 1000000000 q) : Int) := by unfold numV; rw [if_neg n0, if_pos (hv ▸ h), ← hq]
    have e2 : numP len cb p = belowP len 1000000000 (belowP len 1000000000 q) := by unfold numP; rw [if_neg n0, if_pos (hv ▸ h), ← hq]
    have b1 := belowV_lt len cb 1000000000 q (by omega)
    have b2 := belowV_lt len cb 1000000000 (belowP len 1000000000 q) (by omega)
    rw [e1, e2]
    rw [h] at c
    have c1 := fun w h1 => below_any w g len cap 1000000000 a cb q h1 (by omega) (by omega)
    have c2 := fun w h1 => below_any w g len cap 1000000000 a cb (belowP len 1000000000 q) h1 (by omega) (by omega)
    generalize belowV len cb 1000000000 (belowP len 1000000000 q) = x2 at *
    generalize belowP len 1000000000 (belowP len 1000000000 q) = q2 at *
    generalize belowV len cb 1000000000 q = x1 at *
    generalize belowP len 1000000000 q = q1 at *
    have hp : ((x1 * x2 : Nat) : Int) ≤ 1000000000000000000 := by
      have : x1 * x2 ≤ 1000000000 * 1000000000 := Nat.mul_le_mul (by omega) (by omega)
      omega
    have hw : wrap64 ((x1 : Int) * (x2 : Int)) = (x1 : Int) * (x2 : Int) := by
      rw [← Int.natCast_mul]; exact wrap64_id _ (by omega) (by omega)
    have HW : Hid (wrap64 ((x1 : Int) * (x2 : Int)) = (x1 : Int) * (x2 : Int)) := hw
    have C1 : Hid (∀ w, Cur w g a len cap cb q → _) := c1
    have C2 : Hid (∀ w, Cur w g a len cap cb q1 → _) := c2
    clear hv hq h hx e1 e2 n0 hp hw c1 c2
    go_enter Tryd.func17, Tryd.ntmps17
    go_wp2_with fail
    refine c.mono ?_
    rintro e w1 ⟨rfl, hc1, hg1⟩
    have HC : Hid (Cur w1 g a len cap cb q) := hc1
    clear c hc1
    go_wp2_with fail
    refine (C1.out w1 HC.out).mono ?_
    rintro e w2 ⟨rfl, hc2, hg2⟩
    have HC2 : Hid (Cur w2 g a len cap cb q1) := hc2
    clear HC hc2 C1
    go_wp2_with fail
    refine (C2.out w2 HC2.out).mono ?_
    rintro e w3 ⟨rfl, hc3, hg3⟩
    have HC3 : Hid (Cur w3 g a len cap cb q2) := hc3
    clear HC2 hc3 C2
    go_wp2
    go_ret
    refine ⟨?_, HC3.out, grownBy_trans (grownBy_trans hg1 hg2) hg3⟩
    first | rfl | (show Ending.returned (Value.int _ _) = _; rw [HW.out])
  · have n0 : ¬ belowV len cb 8 p = 0 := by omega
    have n1 : ¬ belowV len cb 8 p = 1 := by omega
    have e1 : numV len cb p = -(belowV len cb 100000 q : Int) := by unfold numV; rw [if_neg n0, if_neg n1, if_pos (hv ▸ h), ← hq]
    have e2 : numP len cb p = belowP len 100000 q := by unfold numP; rw [if_neg n0, if_neg n1, if_pos (hv ▸ h), ← hq]
    have b1 := belowV_lt len cb 100000 q (by omega)
    rw [e1, e2]
    rw [h] at c
    have c1 := fun w h1 => below_any w g len cap 100000 a cb q h1 (by omega) (by omega)
    generalize belowV len cb 100000 q = x1 at *
    generalize belowP len 100000 q = q1 at *
    have C1 : Hid (∀ w, Cur w g a len cap cb q → _) := c1
    clear hv hq h hx e1 e2 n0 n1 c1
    go_enter Tryd.func17, Tryd.ntmps17
    go_wp2_with fail
    refine c.mono ?_
    rintro e w1 ⟨rfl, hc1, hg1⟩
    have HC : Hid (Cur w1 g a len cap cb q) := hc1
    clear c hc1
    go_wp2_with fail
    refine (C1.out w1 HC.out).mono ?_
    rintro e w2 ⟨rfl, hc2, hg2⟩
    have HC2 : Hid (Cur w2 g a len cap cb q1) := hc2
    clear HC hc2 C1
    go_wp2
    go_ret
    exact ⟨rfl, HC2.out, grownBy_trans hg1 hg2⟩
  · have n0 : ¬ belowV len cb 8 p = 0 := by omega
    have n1 : ¬ belowV len cb 8 p = 1 := by omega
    have n2 : ¬ belowV len cb 8 p = 2 := by omega
    have e1 : numV len cb p = (belowV len cb 70000 q : Int) := by unfold numV; rw [if_neg n0, if_neg n1, if_neg n2, ← hq]
    have e2 : numP len cb p = belowP len 70000 q := by unfold numP; rw [if_neg n0, if_neg n1, if_neg n2, ← hq]
    rw [e1, e2]
    have c1 := fun w h1 => below_any w g len cap 70000 a cb q h1 (by omega) (by omega)
    generalize belowV len cb 70000 q = x1 at *
    generalize belowP len 70000 q = q1 at *
    have C1 : Hid (∀ w, Cur w g a len cap cb q → _) := c1
    have q0 : ((v : Int) == 0) = false := by rw [beq_eq_false_iff_ne]; omega
    have q1' : ((v : Int) == 1) = false := by rw [beq_eq_false_iff_ne]; omega
    have q2' : ((v : Int) == 2) = false := by rw [beq_eq_false_iff_ne]; omega
    clear hv hq hx e1 e2 n0 n1 n2 c1
    go_enter Tryd.func17, Tryd.ntmps17
    go_wp2_with fail
    refine c.mono ?_
    rintro e w1 ⟨rfl, hc1, hg1⟩
    have HC : Hid (Cur w1 g a len cap cb q) := hc1
    clear c hc1
    go_wp2_with fail
    refine (C1.out w1 HC.out).mono ?_
    rintro e w2 ⟨rfl, hc2, hg2⟩
    have HC2 : Hid (Cur w2 g a len cap cb q1) := hc2
    clear HC hc2 C1
    go_wp2
    go_ret
    exact ⟨rfl, HC2.out, grownBy_trans hg1 hg2⟩

theorem numV_fits (len : Nat) (cb : Nat → Nat) (p : Pos) : -9223372036854775808 ≤ numV len cb p ∧ numV len cb p ≤ 9223372036854775807 := by
  unfold numV
  have h17 := belowV_lt len cb 17 (belowP len 8 p) (by omega)
  have b1 := belowV_lt len cb 1000000000 (belowP len 8 p) (by omega)
  have b2 := belowV_lt len cb 1000000000 (belowP len 1000000000 (belowP len 8 p)) (by omega)
  have b3 := belowV_lt len cb 100000 (belowP len 8 p) (by omega)
  have b4 := belowV_lt len cb 70000 (belowP len 8 p) (by omega)
  simp only []
  split
  · have : ∀ k, k < 17 → -9223372036854775808 ≤ limits.getD k 0 ∧ limits.getD k 0 ≤ 9223372036854775807 := by decide
    exact this _ h17
  · split
    · have h : belowV len cb 1000000000 (belowP len 8 p) * belowV len cb 1000000000 (belowP len 1000000000 (belowP len 8 p)) ≤ 1000000000 * 1000000000 := Nat.mul_le_mul (by omega) (by omega)
      rw [← Int.natCast_mul]
      omega
    · split <;> omega
end Go.Proofs.YtkjabochhhalhacDoor
