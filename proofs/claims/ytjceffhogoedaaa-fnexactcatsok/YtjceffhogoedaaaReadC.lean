/-
  A table that came in.
-/
import Derived.Test.YtjceffhogoedaaaCats
import Derived.Deep.SlicePairs
namespace Go.Proofs.Ytjceffhogoedaaa
open Go.ChangeShapes Go.WideShapes Go.ChangeAt Go.RowKit
set_option linter.unusedVariables false

def boolIn : Value → Bool
  | .bool b => b
  | _ => false
theorem open_int64 {H : Type} {enc : TypeId × Value → H} {W : World} {base b0 : Nat} {spare : Nat → Bool} {held : Bool} {v : Value} {d : DataW H} {p : List MemPlace}
    (hv : Value.okWide Try.prog W .any b0 3 v) (h : DataW.Trod enc Try.prog W base spare held 3 v d p) : ∃ n, v = .int .i64 n ∧ Fits64 n := by
  obtain ⟨n, rfl, _, _, hw⟩ := open_int Try.underlying3 hv h
  refine ⟨n, rfl, ?_⟩
  simp only [Lit.wf, Bool.and_eq_true, decide_eq_true_eq] at hw
  unfold Fits64
  simp [IntKind.min, IntKind.max, IntKind.bits, IntKind.signed] at hw
  omega
theorem under38 : ∃ f0 f1 : Field, Try.prog.underlying 52 = some (.struct #[f0, f1]) ∧ f0.offset = 0 ∧ f1.offset = 1 ∧ f0.type = 3 ∧ f1.type = 4 := ⟨_, _, Try.underlying52, rfl, rfl, rfl, rfl⟩
theorem open_cats {H : Type} {enc : TypeId × Value → H} {W : World} {base : Nat} {spare : Nat → Bool} {held : Bool} {v : Value} {d : DataW H} {p : List MemPlace}
    (hv : Value.okWide Try.prog W .any base 32 v) (h : DataW.Trod enc Try.prog W 0 spare held 32 v d p) :
    ∃ a n cap cs, v = .slice a n cap ∧ IsCats W (.slice a n cap) cs ∧ n = cs.length ∧ n ≤ maxLen := by
  obtain ⟨a, n, cap, rfl⟩ := okWide_slice Try.underlying32 hv
  obtain ⟨fuel, hf⟩ := h
  obtain ⟨f0, f1, hu, o0, o1, t0, t1⟩ := under38
  rcases Go.Deep.open_slice_pairs Try.underlying32 hu (by kernel_rfl) o0 o1 (by rw [t0]; kernel_rfl) (by rw [t1]; kernel_rfl) hf with ⟨hc, _⟩ | ⟨x, l, cp, m, k, V0, V1, D0, D1, P0, P1, hc, _, hl, hm, hmm, _, hcell⟩
  · have e : Value.slice a n cap = .slice none 0 0 := by simpa [Value.cells] using hc
    cases e
    exact ⟨none, 0, 0, [], rfl, ⟨none, 0, rfl, Nat.le_refl _, fun i hi => absurd hi (by simp)⟩, rfl, Nat.zero_le _⟩
  · have e : Value.slice a n cap = .slice (some x) l cp := by simpa [Value.cells] using hc
    cases e
    have hlz : n ≤ m := by rw [hmm]; split <;> omega
    refine ⟨some x, n, cap, (List.range n).map fun i => (intOf (V0 i), boolIn (V1 i)), rfl, ⟨some x, cap, by simp, by simpa using hl, fun i hi => ⟨x, rfl, ?_, ?_⟩⟩, by simp, by omega⟩
    · have hi' : i < n := by simpa using hi
      obtain ⟨h1, _, h3, _⟩ := hcell i (by omega)
      rw [t0] at h3
      obtain ⟨z, hz, _⟩ := DataW.trod_int Try.underlying3 h3
      have hv : V0 i = .int .i64 z := by simpa using hz
      rw [h1, hv]
      simp [catAt, hi', hv, intOf]
    · have hi' : i < n := by simpa using hi
      obtain ⟨_, h2, _, h4⟩ := hcell i (by omega)
      rw [t1] at h4
      obtain ⟨z, hz, _⟩ := DataW.trod_bool Try.underlying4 h4
      have hv : V1 i = .bool z := by simpa using hz
      rw [h2, hv]
      simp [catAt, hi', hv, boolIn]
end Go.Proofs.Ytjceffhogoedaaa
