/-
  The draws of chapter 1's law, second part: a new cursor, a pick from a list, a number.
-/
import Derived.Test.YtokicnopfmokaaaDraw8
namespace Go.Proofs.Ytokicnopfmokaaa
open Go.RowKit
set_option linter.unusedVariables false
set_option maxRecDepth 100000

def hashN (cb : Nat → Nat) (s : Nat) : Nat → Nat
  | 0 => s
  | k + 1 => (hashN cb s k * 131 + cb k + 7) % 1073741824
theorem hashN_lt (cb : Nat → Nat) (s : Nat) (hs : s < 1073741824) (k : Nat) : hashN cb s k < 1073741824 := by
  cases k with
  | zero => exact hs
  | succ k => exact Nat.mod_lt _ (by decide)
def start (cb : Nat → Nat) (len : Nat) : Pos := ⟨0, (hashN cb (10101 + len) (min len 4000) : Nat)⟩
theorem mask30 (n : Nat) (h : n < 9223372036854775808) : bits BinOp.and IntKind.i64 (n : Int) 1073741823 = ((n % 1073741824 : Nat) : Int) := by
  have := bits_mask .i64 63 (by decide) wraps_i64 30 (by decide) (n : Int) (by omega) (by omega)
  have e : (2 : Int) ^ 30 - 1 = 1073741823 := by decide
  rw [e] at this
  rw [this]
  simp

/-- The code as it came in. -/
structure Code0 (w : World) (a : Option Addr) (len : Nat) (cb : Nat → Nat) : Prop where
  small : len ≤ 1048576
  byte : ∀ i, cb i < 256
  cell : ∀ i, i < len → ∃ b off, a = some ⟨b, off, none⟩ ∧ b < w.heap.size ∧ w.cell? ⟨b, off + i, none⟩ = some (.int .u8 (cb i : Nat))
theorem Code0.on {w w' : World} {a : Option Addr} {len : Nat} {cb : Nat → Nat} (h : Code0 w a len cb) (hb : Below w.heap.size w w') : Code0 w' a len cb :=
  ⟨h.small, h.byte, fun i hi => by
    obtain ⟨b, off, e, hlt, hc⟩ := h.cell i hi
    exact ⟨b, off, e, Nat.lt_of_lt_of_le hlt hb.size, by rw [hb.cell (p := ⟨b, off + i, none⟩) hlt]; exact hc⟩⟩

set_option maxRecDepth 100000 in
set_option maxHeartbeats 400000 in
theorem new_any (w : World) (a : Option Addr) (len cap : Nat) (cb : Nat → Nat) (hc : Code0 w a len cb) :
    Calls Try.prog 14 #[.slice a len cap] w fun e w' => e = .returned (.pointer (some ⟨w.heap.size, 0, none⟩)) ∧ Cur w' w.heap.size a len cap cb (start cb len) ∧ Below w.heap.size w w' := by
  have hl := hc.small
  have HC : Hid (Code0 w a len cb) := hc
  have hs0 := hashN_lt cb (10101 + len) (by omega)
  clear hc
  go_enter Try.func14, Try.ntmps14
  go_wp2
  go_loop [3, 4] (fun h i => ∃ k H : Nat, k ≤ 4000 ∧ k ≤ len ∧ i = .int .i64 k ∧ h = .int .i64 H ∧ H < 1073741824 ∧ Hid (H = hashN cb (10101 + len) k)) (fun _ i => 4000 - (intOf i).toNat)
  case atStart => exact ⟨0, 10101 + len, by omega, by omega, rfl, by go_num, by omega, rfl⟩
  case round =>
    obtain ⟨k, H, hk, hkl, rfl, rfl, hH, HH⟩ := hrel
    clear hs0
    by_cases hlt : k < len ∧ k < 4000
    · obtain ⟨hlt1, hlt2⟩ := hlt
      obtain ⟨b, off, rfl, hbs, hcell⟩ := HC.out.cell k hlt1
      obtain ⟨B, hB⟩ : ∃ B, B = cb k := ⟨_, rfl⟩
      have hB2 : B < 256 := by rw [hB]; exact HC.out.byte k
      rw [← hB] at hcell
      have HB : Hid (B = cb k) := hB
      have hm := mask30 (H * 131 + B + 7) (by omega)
      rw [show ((H * 131 + B + 7 : Nat) : Int) = (H : Int) * 131 + (B : Int) + 7 by omega] at hm
      obtain ⟨H', hH'⟩ : ∃ H' : Nat, H' = (H * 131 + B + 7) % 1073741824 := ⟨_, rfl⟩
      rw [← hH'] at hm
      have hH2 : H' < 1073741824 := by rw [hH']; exact Nat.mod_lt _ (by decide)
      have HH' : Hid (H' = hashN cb (10101 + len) (k + 1)) := by show _ = _; rw [hH', HB.out, HH.out]; rfl
      clear hB hH' HH HB
      go_wp2
      exact ⟨⟨k + 1, H', by omega, by omega, by go_num, rfl, hH2, HH'.out⟩, by simp [intOf]; omega⟩
    · have hkm : k = min len 4000 := by omega
      have HS : Hid ((start cb len) = ⟨0, (H : Int)⟩) := by show _ = _; unfold start; rw [← hkm, ← HH.out]
      clear hkm HH
      by_cases h1 : k < len
      · have h2 : ¬ k < 4000 := by omega
        clear hlt
        go_wp2
        go_ret
        rw [HS.out]
        refine ⟨rfl, ⟨⟨HC.out.small, HC.out.byte, fun i hi => ?_⟩, by simp, heap_alloc_new w _⟩, (Below.refl _ _).alloc (Nat.le_refl _) _⟩
        obtain ⟨b, off, rfl, hbs, hcell⟩ := HC.out.cell i hi
        exact ⟨b, off, rfl, by omega, by rw [((Below.refl w.heap.size w).alloc (Nat.le_refl _) _).cell (p := ⟨b, off + i, none⟩) hbs]; exact hcell⟩
      · clear hlt
        go_wp2
        go_ret
        rw [HS.out]
        refine ⟨rfl, ⟨⟨HC.out.small, HC.out.byte, fun i hi => ?_⟩, by simp, heap_alloc_new w _⟩, (Below.refl _ _).alloc (Nat.le_refl _) _⟩
        obtain ⟨b, off, rfl, hbs, hcell⟩ := HC.out.cell i hi
        exact ⟨b, off, rfl, by omega, by rw [((Below.refl w.heap.size w).alloc (Nat.le_refl _) _).cell (p := ⟨b, off + i, none⟩) hbs]; exact hcell⟩

theorem Cur.alloc {w : World} {g len cap : Nat} {a : Option Addr} {cb : Nat → Nat} {p : Pos} (h : Cur w g a len cap cb p) (o : Obj) : Cur (w.alloc o) g a len cap cb p :=
  ⟨h.code.on (World.grownBy_alloc w o (some g)), h.le, by rw [Below.heap_alloc w o g (lt_of_block h.obj)]; exact h.obj⟩

set_option maxHeartbeats 400000 in
theorem pick_any (w : World) (g m len cap : Nat) (a : Option Addr) (cb : Nat → Nat) (p : Pos) (ns : List Int) (n : Nat) (hn : ns.length = n) (h0 : 0 < n) (hn2 : n ≤ 256) (hc : Cur w g a len cap cb p) (hm : m ≠ g)
    (hl : w.heap[m]? = some (.cells (ns.map (Value.int .i64)).toArray 3 (0, 0))) :
    Calls Try.prog 37 #[.pointer (some ⟨g, 0, none⟩), .slice (some ⟨m, 0, none⟩) n n] w fun e w' => e = .returned (.int .i64 (ns.getD (belowV len cb n p) 0)) ∧ Cur w' g a len cap cb (belowP len n p) ∧ w.grownBy w' (some g) := by
  have c := below_any w g len cap n a cb p hc h0 (by omega)
  have hx := belowV_lt len cb n p h0
  generalize belowV len cb n p = x at *
  generalize belowP len n p = p1 at *
  have hcell : w.cell? ⟨m, x, none⟩ = some (.int .i64 (ns.getD x 0)) := by
    simp only [World.cell?, hl]
    simp [List.getD, show x < ns.length by omega]
  generalize ns.getD x 0 = r at *
  clear hc hl hn
  go_enter Try.func37, Try.ntmps37
  go_wp2_with fail
  refine c.mono ?_
  rintro e w1 ⟨rfl, hc1, hg1⟩
  have hcell1 := hg1.cell hcell (by simpa using hm)
  have HC : Hid (Cur w1 g a len cap cb p1) := hc1
  clear c hc1 hcell
  go_wp2
  go_ret
  exact ⟨rfl, HC.out, hg1⟩


end Go.Proofs.Ytokicnopfmokaaa
