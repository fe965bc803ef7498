/-
  Labels whose rows the call owns, in boxes: what is kept of them, and what marks do.
-/
import Derived.Test.YtbahokkofidmeaaTwo
import Derived.Test.YtbahokkofidmeaaJoin
namespace Go.Proofs.Ytbahokkofidmeaa
open Go.RowKit
set_option linter.unusedVariables false

theorem grown_kept {w w' : World} {row : Option Nat} (hg : w.grownBy w' row) {k : Nat} {o : Obj} (h : w.heap[k]? = some o) (hk : row ≠ some k) : w'.heap[k]? = some o := by
  obtain ⟨a1, b1, c1, d1, e1⟩ := hg
  rw [e1 k (lt_of_block h) (by first | exact hk | exact fun h => hk h.symm | simpa using hk)]; exact h
/-- A label in a box whose row the call owns, between two bounds. -/
structure OwnR (b : Nat) (v : Value) (xs : List Int) (lo hi : Nat) (wr : World) : Prop where
  box : wr.heap[b]? = some (.cells #[v] 26 (0, 0))
  own : wr.ownsRow lo 3 1 v xs.length (icells xs)
  top : ∀ k n c, v = .slice (some ⟨k, 0, none⟩) n c → k < hi
theorem own_kept {w w' : World} {lo : Nat} {v : Value} {n : Nat} {xs : List Value} (h : w.ownsRow lo 3 1 v n xs) (hk : ∀ k o n c, v = .slice (some ⟨k, 0, none⟩) n c → lo ≤ k → w.heap[k]? = some o → w'.heap[k]? = some o) : w'.ownsRow lo 3 1 v n xs := by
  refine ⟨h.1, ?_⟩
  rcases h.2 with hn | ⟨g, cap, cur, hv, hb, hg, rest⟩
  · exact .inl hn
  · exact .inr ⟨g, cap, cur, hv, hb, hk _ _ _ _ hv hb hg, rest⟩
theorem OwnR.on {b : Nat} {v : Value} {xs : List Int} {lo hi : Nat} {wr w' : World} (h : OwnR b v xs lo hi wr) (hb : Below wr.heap.size wr w') : OwnR b v xs lo hi w' :=
  ⟨keep2 h.box hb, own_kept h.own fun k o n c _ _ ho => keep2 ho hb, h.top⟩
theorem OwnR.drew {b : Nat} {v : Value} {xs : List Int} {lo hi : Nat} {wr : World} (h : OwnR b v xs lo hi wr) : OwnR b v xs lo hi wr.drew := h.on (below_draw wr)
theorem OwnR.alloc {b : Nat} {v : Value} {xs : List Int} {lo hi : Nat} {wr : World} (h : OwnR b v xs lo hi wr) (o : Obj) : OwnR b v xs lo hi (wr.alloc o) := h.on (below_alloc wr o)
theorem OwnR.by' {b : Nat} {v : Value} {xs : List Int} {lo hi : Nat} {wr w' : World} {row : Option Nat} (h : OwnR b v xs lo hi wr) (hg : wr.grownBy w' row) (hk : ∀ k, row = some k → k ≠ b ∧ (k < lo ∨ hi ≤ k)) : OwnR b v xs lo hi w' := by
  refine ⟨grown_kept hg h.box fun e => (hk b e).1 rfl, own_kept h.own fun k o n c hv hl ho => grown_kept hg ho fun e => ?_, h.top⟩
  have h1 := h.top k n c hv
  have h2 := (hk k e).2
  omega
theorem OwnR.cell {b : Nat} {v : Value} {xs : List Int} {lo hi : Nat} {wr : World} (h : OwnR b v xs lo hi wr) : wr.cell? ⟨b, 0, none⟩ = some v := kcell2 h.box
theorem OwnR.lt {b : Nat} {v : Value} {xs : List Int} {lo hi : Nat} {wr : World} (h : OwnR b v xs lo hi wr) : b < wr.heap.size := lt_of_block h.box
theorem OwnR.ints {b : Nat} {v : Value} {xs : List Int} {lo hi : Nat} {wr : World} (h : OwnR b v xs lo hi wr) : IsInts wr v xs := isInts_own h.own
theorem own_from2 {w : World} {s t : Nat} {e : TypeId} {size : Nat} {v : Value} {n : Nat} {xs : List Value} (h : w.ownsRow t e size v n xs) (hst : s ≤ t) : w.ownsRow s e size v n xs := by
  refine ⟨h.1, ?_⟩
  rcases h.2 with hn | ⟨g, cap, cur, hv, hb, rest⟩
  · exact .inl hn
  · exact .inr ⟨g, cap, cur, hv, by omega, rest⟩
/-- A label that a call has just made is laid in a box. -/
theorem ownR_new {v : Value} {xs : List Int} {lo s : Nat} {wr : World} (h : wr.ownsRow s 3 1 v xs.length (icells xs)) (hs : lo ≤ s) : OwnR wr.heap.size v xs lo wr.heap.size (wr.alloc (.cells #[v] 26 (0, 0))) := by
  refine ⟨heap_alloc_new wr _, own_kept (own_from2 h hs) fun k o n c _ _ ho => keep2 ho (below_alloc wr _), fun k n c hv => ?_⟩
  rcases h.2 with ⟨hn, _⟩ | ⟨g, cap, cur, hv2, hb, hg, rest⟩
  · rw [hn] at hv; simp at hv
  · rw [hv2] at hv
    simp at hv
    rw [← hv.1]; exact lt_of_block hg
theorem RowAt.own2 {w : World} {g : Nat} {xs : List Int} (h : RowAt w g xs) {lo : Nat} (hl : lo ≤ g) (hn : xs.length ≤ 1048576) : w.ownsRow lo 3 1 (.slice (some ⟨g, 0, none⟩) xs.length xs.length) xs.length (icells xs) := h.own lo hl (by unfold maxLen; omega)
theorem Two.by' {w wr w' : World} {v u : Value} {row : Option Nat} (h : Two w v u wr) (hg : wr.grownBy w' row) (hk : ∀ k, row = some k → w.heap.size + 1 + 1 ≤ k) : Two w v u w' :=
  ⟨grown_kept hg h.b0 fun e => by have := hk _ e; omega, grown_kept hg h.b1 fun e => by have := hk _ e; omega, h.below.grown hg h.below.size fun k e => by have := hk k e; omega⟩

set_option maxHeartbeats 400000 in
theorem markIntS_none (a : Option Addr) (cap : Nat) (k0 : Int) (w : World) :
    Calls Try.prog 29 #[.slice a 0 cap, .int .i64 k0] w fun e w' => e = .returned (.int .i64 k0) ∧ w = w' := by
  go_enter Try.func29, Try.ntmps29
  go_wp2
  go_loopw [1, 5] (fun q i wr => i = .int .i64 0 ∧ q = .int .i64 k0 ∧ w = wr) (fun _ i _ => 0)
  case atStart => exact ⟨rfl, rfl, rfl⟩
  case round =>
    obtain ⟨rfl, rfl, rfl⟩ := hrel
    go_wp2
    go_ret
    exact ⟨rfl, rfl⟩

set_option maxHeartbeats 400000 in
theorem markLabel_none (a : Option Addr) (cap : Nat) (k0 : Int) (w : World) :
    Calls Try.prog 30 #[.agg #[.slice a 0 cap], .int .i64 k0] w fun e w' => e = .returned (.int .i64 k0) ∧ w.grownBy w' none := by
  have C := markIntS_none a cap k0 (w.alloc (.cells #[.slice a 0 cap] 26 (0, 0)))
  have HG : Hid (w.grownBy (w.alloc (.cells #[.slice a 0 cap] 26 (0, 0))) none) := World.grownBy_alloc _ _ _
  go_enter Try.func30, Try.ntmps30
  go_wp2_with fail
  refine C.mono ?_
  rintro e w' ⟨rfl, rfl⟩
  clear C
  go_wp2
  go_ret
  exact ⟨rfl, HG.out⟩

theorem mark_own (v : Value) (xs : List Int) (lo : Nat) (k0 : Int) (w : World) (h : w.ownsRow lo 3 1 v xs.length (icells xs)) (hn : xs.length ≤ 1048576) (h0 : 0 ≤ k0) (h1 : k0 ≤ 1099511627776) :
    Calls Try.prog 30 #[.agg #[v], .int .i64 k0] w fun e w' => ∃ row, e = .returned (.int .i64 (k0 + xs.length)) ∧ w.grownBy w' row ∧ (∀ k, row = some k → lo ≤ k ∧ ∃ n c, v = .slice (some ⟨k, 0, none⟩) n c) ∧ w'.ownsRow lo 3 1 v xs.length (icells (upFrom k0 xs.length)) := by
  by_cases hx : 0 < xs.length
  · obtain ⟨g, cap, rest, rfl, hb, hc, hm, hl, hr⟩ := rowIn_own h hx
    refine (markLabel_row g cap xs rest k0 w hr hc hn h0 h1).mono ?_
    rintro e w' ⟨rfl, hrow, hgr⟩
    refine ⟨some g, rfl, hgr, fun k hk => ?_, ?_⟩
    · obtain rfl := Option.some.inj hk
      exact ⟨hb, _, _, rfl⟩
    · have := hrow.own lo hb (by rw [upFrom_length]; exact hc) hm (by simp only [List.length_append, icells_length, upFrom_length] at hl ⊢; exact hl)
      rw [upFrom_length] at this
      exact this
  · have hx0 : xs = [] := List.eq_nil_of_length_eq_zero (by omega)
    subst hx0
    obtain ⟨a, c, rfl⟩ : ∃ a c, v = .slice a 0 c := by
      rcases h.2 with ⟨rfl, _⟩ | ⟨g, cap, cur, rfl, _⟩
      · exact ⟨_, _, rfl⟩
      · exact ⟨_, _, rfl⟩
    refine (markLabel_none a c k0 w).mono ?_
    rintro e w' ⟨rfl, hgr⟩
    refine ⟨none, by simp, hgr, fun k hk => (by cases hk), ?_⟩
    exact own_kept h fun k o n c _ _ ho => grown_kept hgr ho (by simp)

/-- A mark on a label in a box. -/
theorem mark_boxed {b : Nat} {v : Value} {xs : List Int} {lo hi : Nat} {wr : World} (h : OwnR b v xs lo hi wr) (hb : hi ≤ b) (k0 : Int) (hn : xs.length ≤ 1048576) (h0 : 0 ≤ k0) (h1 : k0 ≤ 1099511627776) :
    Calls Try.prog 30 #[.agg #[v], .int .i64 k0] wr fun e w' => ∃ row, e = .returned (.int .i64 (k0 + xs.length)) ∧ wr.grownBy w' row ∧ (∀ k, row = some k → lo ≤ k ∧ k < hi) ∧ OwnR b v (upFrom k0 xs.length) lo hi w' := by
  refine (mark_own v xs lo k0 wr h.own hn h0 h1).mono ?_
  rintro e w' ⟨row, rfl, hgr, hrow, hown⟩
  have hr : ∀ k, row = some k → lo ≤ k ∧ k < hi := fun k hk => by
    obtain ⟨h1, n, c, hv⟩ := hrow k hk
    exact ⟨h1, h.top k n c hv⟩
  refine ⟨row, rfl, hgr, hr, ⟨grown_kept hgr h.box fun e => ?_, by rw [upFrom_length]; exact hown, h.top⟩⟩
  have := hr b e
  omega
end Go.Proofs.Ytbahokkofidmeaa
