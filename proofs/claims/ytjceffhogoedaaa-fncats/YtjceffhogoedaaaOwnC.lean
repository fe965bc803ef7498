/-
  A table that the call owns: its copies, and what is written into it.
-/
import Derived.Test.YtjceffhogoedaaaCatOf
import Derived.Lib.LazyBuf
namespace Go.Proofs.Ytjceffhogoedaaa
open Go.RowKit
set_option linter.unusedVariables false

/-- A table at a block's head, and what is spare behind it. -/
def CatsIn (w : World) (g : Nat) (cs : List (Int × Bool)) (rest : List Value) : Prop := w.heap[g]? = some (.cells (ccells cs ++ rest).toArray 43 (0, 0))
theorem CatsIn.cell {w : World} {g : Nat} {cs : List (Int × Bool)} {rest : List Value} (h : CatsIn w g cs rest) (i : Nat) (hi : i < cs.length) : w.cell? ⟨g, i * 2, none⟩ = some (.int .i64 (catAt cs i).1) ∧ w.cell? ⟨g, i * 2 + 1, none⟩ = some (.bool (catAt cs i).2) := by
  unfold CatsIn at h
  have := ccells_at cs i hi
  have hl := ccells_length cs
  simp only [World.cell?, h]
  simp only [List.getElem?_toArray]
  rw [List.getElem?_append_left (by omega), List.getElem?_append_left (by omega)]
  exact this
theorem CatsIn.free {w : World} {g : Nat} {cs : List (Int × Bool)} {rest : List Value} (h : CatsIn w g cs rest) (i : Nat) : w.frozen? ⟨g, i, none⟩ = false := by
  unfold CatsIn at h
  simp [World.frozen?, h]
theorem ccells_setGen (cs : List (Int × Bool)) : ∀ (i : Nat) (x : Int), i < cs.length → (ccells cs).set (i * 2) (.int .i64 x) = ccells (cs.set i (x, (catAt cs i).2)) := by
  induction cs with
  | nil => intro i x hi; simp at hi
  | cons c cs ih =>
    intro i x hi
    cases i with
    | zero => simp [ccells_cons, catAt]
    | succ i =>
      have := ih i x (by simpa using hi)
      rw [ccells_cons, show (i + 1) * 2 = i * 2 + 1 + 1 by omega]
      simp only [List.set_cons_succ, ccells_cons]
      rw [this]; simp [catAt]
theorem ccells_setLive (cs : List (Int × Bool)) : ∀ (i : Nat) (b : Bool), i < cs.length → (ccells cs).set (i * 2 + 1) (.bool b) = ccells (cs.set i ((catAt cs i).1, b)) := by
  induction cs with
  | nil => intro i b hi; simp at hi
  | cons c cs ih =>
    intro i b hi
    cases i with
    | zero => simp [ccells_cons, catAt]
    | succ i =>
      have := ih i b (by simpa using hi)
      rw [ccells_cons, show (i + 1) * 2 + 1 = i * 2 + 1 + 1 + 1 by omega]
      simp only [List.set_cons_succ, ccells_cons]
      rw [this]; simp [catAt]
theorem CatsIn.setGen {w : World} {g : Nat} {cs : List (Int × Bool)} {rest : List Value} (h : CatsIn w g cs rest) (i : Nat) (hi : i < cs.length) (x : Int) : CatsIn (w.setCell ⟨g, i * 2, none⟩ (.int .i64 x)) g (cs.set i (x, (catAt cs i).2)) rest := by
  have h1 := heap_setCell_same w g (i * 2) _ 43 (.int .i64 x) h
  unfold CatsIn
  rw [h1, ← ccells_setGen cs i x hi]
  have hl := ccells_length cs
  simp only [List.setIfInBounds_toArray]
  rw [List.set_append_left _ _ (by omega)]
theorem CatsIn.setLive {w : World} {g : Nat} {cs : List (Int × Bool)} {rest : List Value} (h : CatsIn w g cs rest) (i : Nat) (hi : i < cs.length) (b : Bool) : CatsIn (w.setCell ⟨g, i * 2 + 1, none⟩ (.bool b)) g (cs.set i ((catAt cs i).1, b)) rest := by
  have h1 := heap_setCell_same w g (i * 2 + 1) _ 43 (.bool b) h
  unfold CatsIn
  rw [h1, ← ccells_setLive cs i b hi]
  have hl := ccells_length cs
  simp only [List.setIfInBounds_toArray]
  rw [List.set_append_left _ _ (by omega)]
theorem CatsIn.cats {w : World} {g : Nat} {cs : List (Int × Bool)} {rest : List Value} (h : CatsIn w g cs rest) (cap : Nat) (hc : cs.length ≤ cap) : IsCats w (.slice (some ⟨g, 0, none⟩) cs.length cap) cs :=
  ⟨_, _, rfl, hc, fun i hi => ⟨_, rfl, by rw [add_head]; exact (h.cell i hi).1, by rw [add_head]; exact (h.cell i hi).2⟩⟩
theorem CatsIn.keep {w w' : World} {g : Nat} {cs : List (Int × Bool)} {rest : List Value} (h : CatsIn w g cs rest) (hb : Below w.heap.size w w') : CatsIn w' g cs rest := Go.Proofs.Ytjceffhogoedaaa.keep h hb
/-- An owned table, and where it lies. -/
structure OwnC (g cap : Nat) (cs : List (Int × Bool)) (rest : List Value) (lo hi : Nat) (w : World) : Prop where
  at' : CatsIn w g cs rest
  cap : cs.length ≤ cap
  lo : lo ≤ g
  hi : g < hi
theorem OwnC.on {g cap : Nat} {cs : List (Int × Bool)} {rest : List Value} {lo hi : Nat} {w w' : World} (h : OwnC g cap cs rest lo hi w) (hb : Below w.heap.size w w') : OwnC g cap cs rest lo hi w' := ⟨h.at'.keep hb, h.cap, h.lo, h.hi⟩
theorem OwnC.by' {g cap : Nat} {cs : List (Int × Bool)} {rest : List Value} {lo hi : Nat} {w w' : World} {row : Option Nat} (h : OwnC g cap cs rest lo hi w) (hg : w.grownBy w' row) (hk : ∀ k, row = some k → k < lo ∨ hi ≤ k) : OwnC g cap cs rest lo hi w' :=
  ⟨grown_kept hg h.at' fun e => by have := hk g e; have := h.lo; have := h.hi; omega, h.cap, h.lo, h.hi⟩
theorem OwnC.cats {g cap : Nat} {cs : List (Int × Bool)} {rest : List Value} {lo hi : Nat} {w : World} (h : OwnC g cap cs rest lo hi w) : IsCats w (.slice (some ⟨g, 0, none⟩) cs.length cap) cs := h.at'.cats cap h.cap
theorem CatsAt.own {w : World} {g : Nat} {cs : List (Int × Bool)} (h : CatsAt w g cs) {lo hi : Nat} (h1 : lo ≤ g) (h2 : g < hi) : OwnC g cs.length cs [] lo hi w := ⟨by unfold CatsIn; rw [List.append_nil]; exact h, Nat.le_refl _, h1, h2⟩

theorem ccells_one (cs : List (Int × Bool)) : ∀ v ∈ ccells cs, v.oneCell' = true := by
  intro v hv
  simp only [ccells, List.mem_flatMap] at hv
  obtain ⟨c, _, hc⟩ := hv
  simp at hc
  rcases hc with rfl | rfl <;> rfl
theorem cells_src {w : World} {p : Addr} {n cap : Nat} {cs : List (Int × Bool)} (h : IsCats w (.slice (some p) n cap) cs) : ∀ (j : Nat) u, (ccells cs)[j]? = some u → w.cell? (p.add j) = some u := by
  intro j u hj
  have hl := ccells_length cs
  have hlt : j < (ccells cs).length := by
    rcases Nat.lt_or_ge j (ccells cs).length with h | h
    · exact h
    · rw [List.getElem?_eq_none h] at hj; cases hj
  obtain ⟨a, cap', hv, _, hx⟩ := h
  cases hv
  obtain ⟨p', hp, h1, h2⟩ := hx (j / 2) (by omega)
  cases hp
  have hc := ccells_at cs (j / 2) (by omega)
  rcases Nat.mod_two_eq_zero_or_one j with hm | hm
  · have e : j = j / 2 * 2 := by omega
    rw [e] at hj ⊢
    rw [hc.1] at hj
    rw [h1]; exact hj
  · have e : j = j / 2 * 2 + 1 := by omega
    rw [e] at hj ⊢
    rw [hc.2] at hj
    rw [h2]; exact hj
theorem ownsC_empty (w : World) : (w.alloc (.cells #[] 43 (0, 0))).ownsRow w.heap.size 43 2 (.slice (some ⟨w.heap.size, 0, none⟩) 0 0) 0 [] :=
  ⟨by simp, .inr ⟨w.heap.size, 0, #[], rfl, Nat.le_refl _, heap_alloc_new w _, Nat.le_refl _, Nat.zero_le _, by simp, by simp⟩⟩
theorem ownC_of {w : World} {base n : Nat} {v : Value} {cs : List (Int × Bool)} (h : w.ownsRow base 43 2 v n (ccells cs)) (hn : n = cs.length) (hv : v ≠ .slice none 0 0) : ∃ g cap rest, v = .slice (some ⟨g, 0, none⟩) cs.length cap ∧ OwnC g cap cs rest base w.heap.size w := by
  subst hn
  rcases h.2 with ⟨h0, _⟩ | ⟨g, cap, cur, rfl, hb, hg, hcap, hm, hs, htake⟩
  · exact absurd h0 hv
  · refine ⟨g, cap, cur.toList.drop (cs.length * 2), rfl, ?_, hcap, hb, lt_of_block hg⟩
    unfold CatsIn
    rw [← htake, List.take_append_drop]
    exact hg
/-- append([]Cat{}, l...), as one step. -/
theorem wpList_copyC {ops : Array Oper} {rest : List Oper} {o : Oper} {a : Act} {Q : Exit → Act → World → Prop} (hgd : o.guard = none) (s x : Operand)
    (ho : o.op = .call { callee := .builtin .append, args := #[s, x], argTypes := #[24, 24] }) (w : World) (p : Addr) (cap : Nat) (cs : List (Int × Bool)) (n : Nat) (hn : n = cs.length)
    (hs : a.eval s = .slice (some ⟨w.heap.size, 0, none⟩) 0 0) (hx : a.eval x = .slice (some p) n cap) (hc : IsCats w (.slice (some p) n cap) cs) (hb : cs.length ≤ 1048576)
    (h : ∀ g c rs w', Hid (OwnC g c cs rs w.heap.size w'.heap.size w') → Hid (Below w.heap.size w w') → wpList Try.prog ops Q rest (a.put o.dst (.slice (some ⟨g, 0, none⟩) n c)) w') : wpList Try.prog ops Q (o :: rest) a (w.alloc (.cells #[] 43 (0, 0))) := by
  subst hn
  obtain ⟨i0, hi, hz0, hz1, hz2⟩ := info_parts info36
  have hcells := cells_src (hc.on (below_alloc w (.cells #[] 43 (0, 0))))
  refine wpList_append_own _ hgd s x 24 ho w.heap.size 43 i0 _ 2 16 Try.underlying24 hi hz0 hz1 hz2 rfl (by decide) _ 0 [] hs (ownsC_empty w) p cs.length cap (ccells cs) hx (ccells_length cs) hcells (ccells_one cs) (by simp only [maxLen]; omega) (by omega) (by simp) ?_
  intro v' w' h1 h2 h3
  rw [Nat.zero_add, List.nil_append] at h1
  have hne : v' ≠ .slice none 0 0 := fun e => by have := (h3.1 e).1; cases this
  obtain ⟨g, c, rs, rfl, ho⟩ := ownC_of h1 rfl hne
  refine h g c rs w' ho ?_
  exact (below_alloc w _).grown h2 (by simp) (fun k hk => by simp [Value.ownBlock] at hk; omega)
end Go.Proofs.Ytjceffhogoedaaa
