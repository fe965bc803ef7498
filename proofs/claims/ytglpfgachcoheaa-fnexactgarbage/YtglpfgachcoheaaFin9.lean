/-
  Answers that the call owns: numbers and Bools, marked and kept.
-/
import Derived.Test.YtglpfgachcoheaaReachS9
import Derived.Test.YtglpfgachcoheaaHeldA
import Derived.Test.YtglpfgachcoheaaCopy8
namespace Go.Proofs.Ytglpfgachcoheaa
open Go.RowKit
set_option linter.unusedVariables false
set_option maxRecDepth 100000

theorem ints_own {xs : List Int} {w : World} {v : Value} {w' : World} (h : w'.ownsRow w.heap.size 3 1 v xs.length (icells xs)) : OwnI w.heap.size w'.heap.size w' v xs := by
  by_cases h0 : xs.length = 0
  · obtain ⟨a, c, rfl⟩ := owns_len h
    exact ⟨a, c, rfl, by omega, fun e => absurd h0 e⟩
  · obtain ⟨g, cap, rest, rfl, hb, hc, _, _, hr⟩ := rowIn_own h (by omega)
    exact ⟨_, cap, rfl, hc, fun _ => ⟨g, rest, rfl, hb, lt_of_block hr, hr⟩⟩
/-- Bools of the call's own. -/
def OwnB (lo hi : Nat) (w : World) (v : Value) (xs : List Bool) : Prop := ∃ a cap, v = .slice a xs.length cap ∧ xs.length ≤ cap ∧ (xs.length ≠ 0 → ∃ g, a = some ⟨g, 0, none⟩ ∧ lo ≤ g ∧ g < hi ∧ BolIn w g xs)
theorem OwnB.move {lo hi lo' hi' : Nat} {w w' : World} {v : Value} {xs : List Bool} (h : OwnB lo hi w v xs) (hk : ∀ g o, lo ≤ g → g < hi → w.heap[g]? = some o → w'.heap[g]? = some o) (h1 : lo' ≤ lo) (h2 : hi ≤ hi') : OwnB lo' hi' w' v xs := by
  obtain ⟨a, cap, hv, hc, hx⟩ := h
  exact ⟨a, cap, hv, hc, fun h0 => by obtain ⟨g, ha, hl, hh, hr⟩ := hx h0; exact ⟨g, ha, by omega, by omega, hk g _ hl hh hr⟩⟩
theorem OwnB.blk {lo hi : Nat} {w : World} {v : Value} {xs : List Bool} (h : OwnB lo hi w v xs) {g : Nat} (hg : g ∈ Go.Proofs.Ytglpfgachcoheaa.blk v) : lo ≤ g ∧ g < hi ∧ g < w.heap.size := by
  obtain ⟨a, cap, rfl, hc, hx⟩ := h
  by_cases h0 : xs.length = 0
  · rw [h0, blk_nil] at hg; simp at hg
  · obtain ⟨b, rfl, hl, hh, hr⟩ := hx h0
    rw [blk_one _ h0] at hg
    simp at hg
    subst hg
    exact ⟨hl, hh, lt_of_block hr⟩
theorem OwnB.bools {lo hi : Nat} {w : World} {v : Value} {xs : List Bool} (h : OwnB lo hi w v xs) : IsBools w v xs := by
  obtain ⟨a, cap, rfl, hc, hx⟩ := h
  refine ⟨a, cap, rfl, hc, fun i hi' => ?_⟩
  obtain ⟨g, rfl, _, _, hr⟩ := hx (by omega)
  exact ⟨_, rfl, by rw [add_head]; exact hr.cell i hi'⟩
theorem bools_own {xs : List Bool} {w : World} {e : Ending} {w' : World} (h : BoolsAns xs w e w') : ∃ v, e = .returned v ∧ OwnB w.heap.size w'.heap.size w' v xs ∧ Below w.heap.size w w' := by
  obtain ⟨a, n, c, he, rfl, hc, hg, hb⟩ := h
  exact ⟨_, he, ⟨a, c, rfl, hc, fun h0 => by obtain ⟨g, h1, h2, h3⟩ := hg h0; exact ⟨g, h1, h2, lt_of_block h3, h3⟩⟩, hb⟩
theorem markBoolS_nil (a : Option Addr) (cap : Nat) (k0 : Int) (w : World) :
    Calls Try.prog 32 #[.slice a 0 cap, .int .i64 k0] w fun e w' => e = .returned (.int .i64 k0) ∧ w = w' := by
  go_enter Try.func32, Try.ntmps32
  go_wp2
  go_loop [1, 5] (fun q i => q = .int .i64 k0 ∧ i = .int .i64 0) (fun _ _ => 0)
  case atStart => exact ⟨rfl, rfl⟩
  case round =>
    obtain ⟨rfl, rfl⟩ := hrel
    go_wp2
    go_ret
    exact ⟨rfl, rfl⟩
theorem markB_own (lo hi : Nat) (v : Value) (xs : List Bool) (k0 : Int) (w : World) (h : OwnB lo hi w v xs) (hn : xs.length ≤ 1048576) (h0 : 0 ≤ k0) (h1 : k0 ≤ 1099511627776) :
    Calls Try.prog 32 #[v, .int .i64 k0] w fun e w' => e = .returned (.int .i64 (k0 + xs.length)) ∧ OwnB lo hi w' v (upB k0 xs.length) ∧ Touch (Go.Proofs.Ytglpfgachcoheaa.blk v) w w' := by
  obtain ⟨a, c, rfl, hc, hx⟩ := h
  by_cases hz : xs.length = 0
  · rw [hz]
    refine (markBoolS_nil a c k0 w).mono ?_
    rintro e w' ⟨rfl, rfl⟩
    refine ⟨by simp, ⟨a, c, by rw [upB_length], by rw [upB_length]; omega, fun h => absurd (upB_length k0 0) h⟩, ?_⟩
    rw [blk_nil]
    exact touch_none w
  · obtain ⟨g, rfl, hl, hh, hr⟩ := hx hz
    refine (markBoolS_row g c xs.length xs k0 w hr rfl hc hn h0 h1).mono ?_
    rintro e w' ⟨rfl, hr2, hg⟩
    refine ⟨rfl, ⟨_, c, by rw [upB_length], by rw [upB_length]; exact hc, fun _ => ⟨g, rfl, hl, hh, hr2⟩⟩, ?_⟩
    rw [blk_one _ hz]
    exact touch_one hg (lt_of_block hr)
theorem OwnB.on {lo hi : Nat} {w w' : World} {v : Value} {xs : List Bool} (h : OwnB lo hi w v xs) (hb : Below w.heap.size w w') : OwnB lo hi w' v xs := h.move (fun g x _ _ hx => keep hx hb) (Nat.le_refl _) (Nat.le_refl _)
theorem OwnB.turned {lo hi l0 h0 : Nat} {w w' : World} {v : Value} {xs : List Bool} (h : OwnB lo hi w v xs) (ht : Turned8 l0 h0 w w') (hd : hi ≤ l0 ∨ h0 ≤ lo) : OwnB lo hi w' v xs := h.move (fun g x h1 h2 hx => ht.block _ _ hx (by omega)) (Nat.le_refl _) (Nat.le_refl _)
theorem OwnB.touched {lo hi l2 h2 : Nat} {w w' : World} {v u : Value} {xs ys : List Bool} (h : OwnB lo hi w v xs) (hu : OwnB l2 h2 w u ys) (ht : Touch (Go.Proofs.Ytglpfgachcoheaa.blk u) w w') (hd : hi ≤ l2 ∨ h2 ≤ lo) : OwnB lo hi w' v xs := h.move (fun g x h1 h2' hx => ht.block _ _ (fun hm => by have := hu.blk hm; omega) hx) (Nat.le_refl _) (Nat.le_refl _)
theorem OwnI.on8 {lo hi : Nat} {w w' : World} {v : Value} {xs : List Int} (h : OwnI lo hi w v xs) (hb : Below w.heap.size w w') : OwnI lo hi w' v xs := h.move (fun g x _ _ hx => keep hx hb) (Nat.le_refl _) (Nat.le_refl _)
theorem OwnI.turned {lo hi l0 h0 : Nat} {w w' : World} {v : Value} {xs : List Int} (h : OwnI lo hi w v xs) (ht : Turned8 l0 h0 w w') (hd : hi ≤ l0 ∨ h0 ≤ lo) : OwnI lo hi w' v xs := h.move (fun g x h1 h2 hx => ht.block _ _ hx (by omega)) (Nat.le_refl _) (Nat.le_refl _)
theorem OwnI.touched {lo hi l2 h2 : Nat} {w w' : World} {v u : Value} {xs ys : List Int} (h : OwnI lo hi w v xs) (hu : OwnI l2 h2 w u ys) (ht : Touch (Go.Proofs.Ytglpfgachcoheaa.blk u) w w') (hd : hi ≤ l2 ∨ h2 ≤ lo) : OwnI lo hi w' v xs := h.move (fun g x h1 h2' hx => ht.block _ _ (fun hm => by have := hu.blk hm; omega) hx) (Nat.le_refl _) (Nat.le_refl _)
theorem OwnA.turnedBy {g cap : Nat} {es : List El} {rest : List Value} {lo hi l0 h0 : Nat} {w w' : World} (h : OwnA g cap es rest lo hi w) (ht : Turned8 l0 h0 w w') (hd : hi ≤ l0 ∨ h0 ≤ lo) : OwnA g cap es rest lo hi w' :=
  ⟨ht.block _ _ h.at' (by have := h.lo; have := h.hi; omega), h.cap, h.lo, h.hi, fun i hi' => (h.own i hi').move (fun b x h1 h2 hx => ht.block _ _ hx (by omega)) (Nat.le_refl _) (Nat.le_refl _), h.ne, h.apart⟩
end Go.Proofs.Ytglpfgachcoheaa
