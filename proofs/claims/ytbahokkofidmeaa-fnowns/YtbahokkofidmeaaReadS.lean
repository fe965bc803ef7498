/-
  A slice of ints that came in, and what is kept from call to call.
-/
import Derived.Test.YtbahokkofidmeaaReads
import Derived.Test.YtbahokkofidmeaaMap
namespace Go.Proofs.Ytbahokkofidmeaa
open Go.ChangeShapes Go.WideShapes Go.ChangeAt Go.RowKit
set_option linter.unusedVariables false

theorem keep {w w' : World} {b : Nat} {o : Obj} (h : w.heap[b]? = some o) (hb : Below w.heap.size w w') : w'.heap[b]? = some o := by
  rw [hb.block b (lt_of_block h)]; exact h
theorem kcell {w : World} {b : Nat} {t : TypeId} {v : Value} (h : w.heap[b]? = some (.cells #[v] t (0, 0))) : w.cell? ⟨b, 0, none⟩ = some v := by simp [World.cell?, h]
theorem RowAt.ints {w : World} {g : Nat} {xs : List Int} (h : RowAt w g xs) : IsInts w (.slice (some ⟨g, 0, none⟩) xs.length xs.length) xs :=
  ⟨_, _, rfl, Nat.le_refl _, fun i hi => ⟨_, rfl, by rw [add_head]; exact h.cell i hi⟩⟩
theorem _root_.Go.RowKit.Below.more {w w1 w2 : World} {s : Nat} (h : Below s w w1) (h2 : Below w1.heap.size w1 w2) (hs : s ≤ w1.heap.size) : Below s w w2 := h.trans (h2.mono hs)

theorem open_intS {H : Type} {enc : TypeId × Value → H} {W : World} {base : Nat} {spare : Nat → Bool} {held : Bool} {v : Value} {d : DataW H} {p : List MemPlace}
    (hv : Value.okWide Try.prog W .any base 24 v) (h : DataW.Trod enc Try.prog W 0 spare held 24 v d p) :
    ∃ a n cap xs, v = .slice a n cap ∧ IsInts W (.slice a n cap) xs ∧ n = xs.length ∧ n ≤ maxLen := by
  obtain ⟨a, n, cap, rfl⟩ : ∃ a n cap, v = .slice a n cap := by
    have := okWide_slice Try.underlying24 hv
    exact this
  obtain ⟨fuel, hf⟩ := h
  rcases open_ints Try.underlying24 Try.underlying3 (by kernel_rfl) hf with ⟨hc, _⟩ | ⟨x, l, cp, zs, hc, _, hl, hm, hz, _, hcell, hwz⟩
  · have e : Value.slice a n cap = .slice none 0 0 := by simpa [cells24, Value.cells] using hc
    cases e
    exact ⟨none, 0, 0, [], rfl, ⟨none, 0, rfl, Nat.le_refl _, fun i hi => absurd hi (by simp)⟩, rfl, Nat.zero_le _⟩
  · have e : Value.slice a n cap = .slice (some x) l cp := by simpa [cells24, Value.cells] using hc
    cases e
    have hlz : n ≤ zs.length := by rw [hz]; split <;> omega
    have hl2 : (zs.take n).length = n := by simp; omega
    refine ⟨some x, n, cap, zs.take n, rfl, ⟨some x, cap, by rw [hl2], by rw [hl2]; exact hl, fun i hi => ⟨x, rfl, ?_⟩⟩, hl2.symm, by omega⟩
    rw [hl2] at hi
    rw [hcell i (by omega)]
    simp [List.getD, hi]
end Go.Proofs.Ytbahokkofidmeaa
