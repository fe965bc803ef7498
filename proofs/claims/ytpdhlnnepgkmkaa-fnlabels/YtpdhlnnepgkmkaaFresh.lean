/-
  The law's own 'fresh' and 'big'.
-/
import Derived.Test.YtpdhlnnepgkmkaaDrawD
import Derived.Test.YtpdhlnnepgkmkaaPut
namespace Go.Proofs.Ytpdhlnnepgkmkaa
open Go.RowKit
set_option linter.unusedVariables false

/-- Whatever int, as a byte. -/
def byteOfInt (z : Int) : UInt8 := UInt8.ofNat (IntKind.u8.wrap z).toNat
theorem byteOfInt_toNat (z : Int) : ((byteOfInt z).toNat : Int) = IntKind.u8.wrap z := by
  have h : 0 ≤ IntKind.u8.wrap z ∧ IntKind.u8.wrap z < 256 := by unfold IntKind.wrap; simp [IntKind.bits, IntKind.signed]; omega
  unfold byteOfInt
  rw [UInt8.toNat_ofNat_of_lt' (by simp; omega)]
  omega
theorem vs_byte (z : Int) : (#[.int .u8 (IntKind.u8.wrap z)] : Array Value) = (bcells [byteOfInt z]).toArray := by
  simp [bcells, byteOfInt_toNat]
theorem vs_mod (z : Int) : (#[.int .u8 (z % 256)] : Array Value) = (bcells [UInt8.ofNat (z % 256).toNat]).toArray := by
  have h : ((UInt8.ofNat (z % 256).toNat).toNat : Int) = z % 256 := by
    rw [UInt8.toNat_ofNat_of_lt' (by simp; omega)]
    omega
  unfold bcells
  simp only [List.map_cons, List.map_nil, h]
theorem code_own {w : World} {base : Nat} {b n c : Nat} {l : List UInt8} (h : w.ownsRow base 5 1 (.slice (some ⟨b, 0, none⟩) n c) l.length (bcells l)) (hl : l.length ≤ 1048576) : n = l.length ∧ Code0 w (some ⟨b, 0, none⟩) n (fun i => (l.getD i 0).toNat) := by
  have hn : n = l.length := by
    rcases h.2 with ⟨hv, hm⟩ | ⟨g, cap, cur, hv, _⟩
    · simp at hv
    · simp at hv; exact hv.2.1
  refine ⟨hn, ⟨by omega, fun i => (l.getD i 0).toNat_lt, fun i hi => ?_⟩⟩
  have hc := h.cells rfl i (.int .u8 ((l.getD i 0).toNat : Nat)) (by simp [bcells, List.getD]; rw [List.getElem?_eq_getElem (by omega)]; simp)
  rw [add_head] at hc
  have := World.block_lt_of_cell? w _ hc
  refine ⟨b, 0, rfl, this, ?_⟩
  simpa using hc

set_option maxHeartbeats 400000 in
theorem big_yes (w : World) (a : Option Addr) (len cap : Nat) (h : (1048576 : Int) < (len : Int)) :
    Calls Try.prog 9 #[.slice a len cap] w fun e w' => e = .returned (.bool true) ∧ w = w' := by
  go_enter Try.func9, Try.ntmps9
  go_wp2
  go_ret
  exact ⟨by simp, rfl⟩
set_option maxHeartbeats 400000 in
theorem big_no (w : World) (a : Option Addr) (len cap : Nat) (h : ¬ (1048576 : Int) < (len : Int)) :
    Calls Try.prog 9 #[.slice a len cap] w fun e w' => e = .returned (.bool false) ∧ w = w' := by
  go_enter Try.func9, Try.ntmps9
  go_wp2
  go_ret
  exact ⟨by simp, rfl⟩

set_option maxRecDepth 100000 in
set_option maxHeartbeats 2000000 in
theorem fresh_any (w : World) (a : Option Addr) (len cap : Nat) (cb : Nat → Nat) (hc : Code0 w a len cb) :
    Calls Try.prog 12 #[.slice a len cap, .int .i64 4] w fun e w' => ∃ v l, e = .returned v ∧ l.length ≤ 601 ∧ 0 < l.length ∧ w'.ownsRow w.heap.size 5 1 v l.length (bcells l) ∧ Below w.heap.size w w' := by
  have HC : Hid (Code0 w a len cb) := hc
  have hsm := hc.small
  have HS : Hid ((w.alloc (.cells #[.int .u8 4] 5 (0, 0))).ownsRow w.heap.size 5 1 (.slice (some ⟨w.heap.size, 0, none⟩) 1 1) 1 (bcells [4])) :=
    ⟨by simp [bcells], .inr ⟨w.heap.size, 1, #[.int .u8 4], rfl, Nat.le_refl _, heap_alloc_new w _, Nat.le_refl _, by decide, by simp, by simp [bcells]⟩⟩
  have HB0 : Hid (Below w.heap.size w (w.alloc (.cells #[.int .u8 4] 5 (0, 0)))) := below_alloc w _
  clear hc
  go_enter Try.func12, Try.ntmps12
  go_wp2
  go_loopw [5, 6] (fun v i wr => ∃ (k : Nat) (l : List UInt8), k ≤ 600 ∧ k ≤ len ∧ i = .int .i64 k ∧ l.length = k + 1 ∧ Hid (wr.ownsRow w.heap.size 5 1 v (k + 1) (bcells l)) ∧ Hid (Below w.heap.size w wr)) (fun _ i _ => 600 - (intOf i).toNat)
  case atStart => exact ⟨0, [4], by omega, by omega, rfl, rfl, HS, HB0⟩
  case round =>
    obtain ⟨k, l, hk, hkl, rfl, hl, hown, hbel⟩ := hrel
    clear HS HB0
    by_cases hlt : k < 600 ∧ k < len
    · obtain ⟨b, off, rfl, hbs, hcell⟩ := HC.out.cell k hlt.2
      have hcell' : wr.cell? ⟨b, off + k, none⟩ = some (.int .u8 (cb k : Nat)) := (hbel.out.cell hbs).trans hcell
      have i1 : (k : Int) < 600 := by omega
      have i2 : (k : Int) < (len : Int) := by omega
      have i0 : (0 : Int) ≤ (k : Int) := by omega
      obtain ⟨a1, n1, c1, rfl⟩ : ∃ a1 n1 c1, _ = Value.slice a1 n1 c1 := own_shape hown.out
      have hown1 : Hid (wr.ownsRow w.heap.size 5 1 (.slice a1 n1 c1) l.length (bcells l)) := by rw [hl]; exact hown
      have hsz := hbel.out.size
      have hll : Hid (l.length = k + 1) := hl
      clear hown hl hcell
      go_wp2_with (refine wpList_app rfl (.tmp 20) (.tmp 34) rfl w wr w.heap.size (.slice a1 n1 c1) l [_] _ 1 rfl rfl hown1.out (vs_mod _) rfl (by rw [hll.out]; omega) hsz hbel.out ?_; intro v' w3 hown' hnx')
      have h2 := hown'.out
      rw [List.length_append, hll.out] at h2
      have H2 : Hid (w3.ownsRow w.heap.size 5 1 v' (k + 1 + 1) (bcells (l ++ [_]))) := h2
      refine ⟨⟨k + 1, _, by omega, by omega, by go_num, ?_, H2, hnx'⟩, by simp [intOf]; omega⟩
      rw [List.length_append, hll.out]; rfl
    · obtain ⟨a1, n1, c1, rfl⟩ : ∃ a1 n1 c1, _ = Value.slice a1 n1 c1 := own_shape hown.out
      have HH : Hid (l.length = k + 1 ∧ k ≤ 600) := ⟨hl, hk⟩
      have hcases : ¬ (k : Int) < (len : Int) ∨ ((k : Int) < (len : Int) ∧ ¬ (k : Int) < 600) := by omega
      clear hl hk hkl hlt
      rcases hcases with h1 | ⟨h1, h2⟩
      all_goals
        go_wp2
        go_ret
        first
          | refine ⟨_, l, rfl, ?_, ?_, ?_, hbel.out⟩
          | refine ⟨_, rfl, l, ?_, ?_, ?_, hbel.out⟩
        · have := HH.out; omega
        · have := HH.out; omega
        · rw [HH.out.1]; exact hown.out
end Go.Proofs.Ytpdhlnnepgkmkaa
