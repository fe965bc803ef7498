/-
  A slice that the call owns, and where it lies; marks on it.
-/
import Derived.Test.YtbahokkofidmeaaOwnR
import Derived.Test.YtbahokkofidmeaaReadS
import Derived.Test.YtbahokkofidmeaaIRight
namespace Go.Proofs.Ytbahokkofidmeaa
open Go.RowKit
set_option linter.unusedVariables false

structure OwnV (v : Value) (xs : List Int) (lo hi : Nat) (wr : World) : Prop where
  own : wr.ownsRow lo 3 1 v xs.length (icells xs)
  top : ∀ k n c, v = .slice (some ⟨k, 0, none⟩) n c → k < hi
theorem OwnV.on {v : Value} {xs : List Int} {lo hi : Nat} {wr w' : World} (h : OwnV v xs lo hi wr) (hb : Below wr.heap.size wr w') : OwnV v xs lo hi w' :=
  ⟨own_kept h.own fun k o n c _ _ ho => keep2 ho hb, h.top⟩
theorem OwnV.by' {v : Value} {xs : List Int} {lo hi : Nat} {wr w' : World} {row : Option Nat} (h : OwnV v xs lo hi wr) (hg : wr.grownBy w' row) (hk : ∀ k, row = some k → k < lo ∨ hi ≤ k) : OwnV v xs lo hi w' :=
  ⟨own_kept h.own fun k o n c hv hl ho => grown_kept hg ho fun e => by have := hk k e; have := h.top k n c hv; omega, h.top⟩
theorem OwnV.ints {v : Value} {xs : List Int} {lo hi : Nat} {wr : World} (h : OwnV v xs lo hi wr) : IsInts wr v xs := isInts_own h.own
theorem ownV_new {v : Value} {xs : List Int} {lo s : Nat} {wr : World} (h : wr.ownsRow s 3 1 v xs.length (icells xs)) (hs : lo ≤ s) : OwnV v xs lo wr.heap.size wr :=
  ⟨own_from2 h hs, fun k n c hv => by subst hv; exact (h.lt k rfl).2⟩

theorem markS_own (v : Value) (xs : List Int) (lo : Nat) (k0 : Int) (w : World) (h : w.ownsRow lo 3 1 v xs.length (icells xs)) (hn : xs.length ≤ 1048576) (h0 : 0 ≤ k0) (h1 : k0 ≤ 1099511627776) :
    Calls Try.prog 29 #[v, .int .i64 k0] w fun e w' => ∃ row, e = .returned (.int .i64 (k0 + xs.length)) ∧ w.grownBy w' row ∧ (∀ k, row = some k → lo ≤ k ∧ ∃ n c, v = .slice (some ⟨k, 0, none⟩) n c) ∧ w'.ownsRow lo 3 1 v xs.length (icells (upFrom k0 xs.length)) := by
  by_cases hx : 0 < xs.length
  · obtain ⟨g, cap, rest, rfl, hb, hc, hm, hl, hr⟩ := rowIn_own h hx
    refine (markIntS_row g cap xs rest k0 w hr hc hn h0 h1).mono ?_
    rintro e w' ⟨rfl, hrow, hgr⟩
    refine ⟨some g, rfl, hgr, fun k hk => ?_, ?_⟩
    · obtain rfl := Option.some.inj hk
      exact ⟨hb, _, _, rfl⟩
    · have := hrow.own lo hb (by rw [upFrom_length]; exact hc) hm (by simp only [List.length_append, icells_length, upFrom_length] at hl ⊢; exact hl)
      rw [upFrom_length] at this
      exact this
  · have hx0 : xs = [] := List.eq_nil_of_length_eq_zero (by omega)
    subst hx0
    obtain ⟨a, c, rfl⟩ : ∃ a c, v = .slice a 0 c := by
      rcases h.2 with ⟨rfl, _⟩ | ⟨g, cap, cur, rfl, _⟩
      · exact ⟨_, _, rfl⟩
      · exact ⟨_, _, rfl⟩
    refine (markIntS_none a c k0 w).mono ?_
    rintro e w' ⟨rfl, rfl⟩
    exact ⟨none, by simp, World.grownBy.refl _ _, fun k hk => (by cases hk), h⟩
theorem mark_V {v : Value} {xs : List Int} {lo hi : Nat} {wr : World} (h : OwnV v xs lo hi wr) (k0 : Int) (hn : xs.length ≤ 1048576) (h0 : 0 ≤ k0) (h1 : k0 ≤ 1099511627776) :
    Calls Try.prog 29 #[v, .int .i64 k0] wr fun e w' => ∃ row, e = .returned (.int .i64 (k0 + xs.length)) ∧ wr.grownBy w' row ∧ (∀ k, row = some k → lo ≤ k ∧ k < hi) ∧ OwnV v (upFrom k0 xs.length) lo hi w' := by
  refine (markS_own v xs lo k0 wr h.own hn h0 h1).mono ?_
  rintro e w' ⟨row, rfl, hgr, hrow, hown⟩
  refine ⟨row, rfl, hgr, fun k hk => ?_, ⟨by rw [upFrom_length]; exact hown, h.top⟩⟩
  obtain ⟨h1, n, c, hv⟩ := hrow k hk
  exact ⟨h1, h.top k n c hv⟩

/-- What the law of Needs keeps. -/
structure NeedW (w : World) (va vb S : Value) (ns : List Int) (h1 : Nat) (x0 : Value) (own : List Int) (h2 : Nat) (x1 : Value) (xs : List Int) (h3 : Nat) (x2 : Value) (ys : List Int) (h4 : Nat) (wr : World) : Prop where
  two : Two w va vb wr
  s : OwnV S ns (w.heap.size + 1 + 1) h1 wr
  o0 : OwnV x0 own h1 h2 wr
  o1 : OwnR h3 x1 xs h2 h3 wr
  o2 : OwnR h4 x2 ys (h3 + 1) h4 wr
  r1 : w.heap.size + 1 + 1 ≤ h1
  r2 : h1 ≤ h2
  r3 : h2 ≤ h3
  r4 : h3 + 1 ≤ h4
section
variable {w : World} {va vb S : Value} {ns : List Int} {h1 : Nat} {x0 : Value} {own : List Int} {h2 : Nat} {x1 : Value} {xs : List Int} {h3 : Nat} {x2 : Value} {ys : List Int} {h4 : Nat} {wr w' : World}
theorem NeedW.on (h : NeedW w va vb S ns h1 x0 own h2 x1 xs h3 x2 ys h4 wr) (hb : Below wr.heap.size wr w') : NeedW w va vb S ns h1 x0 own h2 x1 xs h3 x2 ys h4 w' :=
  ⟨h.two.on hb, h.s.on hb, h.o0.on hb, h.o1.on hb, h.o2.on hb, h.r1, h.r2, h.r3, h.r4⟩
theorem NeedW.drew (h : NeedW w va vb S ns h1 x0 own h2 x1 xs h3 x2 ys h4 wr) : NeedW w va vb S ns h1 x0 own h2 x1 xs h3 x2 ys h4 wr.drew := h.on (below_draw wr)
/-- Something behind all of it has been written. -/
theorem NeedW.behind (h : NeedW w va vb S ns h1 x0 own h2 x1 xs h3 x2 ys h4 wr) {row : Option Nat} (hg : wr.grownBy w' row) (hk : ∀ k, row = some k → h4 + 1 ≤ k) : NeedW w va vb S ns h1 x0 own h2 x1 xs h3 x2 ys h4 w' := by
  have r1 := h.r1; have r2 := h.r2; have r3 := h.r3; have r4 := h.r4
  exact ⟨h.two.by' hg fun k e => by have := hk k e; omega, h.s.by' hg fun k e => by have := hk k e; omega, h.o0.by' hg fun k e => by have := hk k e; omega, h.o1.by' hg fun k e => by have := hk k e; omega, h.o2.by' hg fun k e => by have := hk k e; omega, r1, r2, r3, r4⟩
/-- The first copy is marked. -/
theorem NeedW.mark0 (h : NeedW w va vb S ns h1 x0 own h2 x1 xs h3 x2 ys h4 wr) {row : Option Nat} {own' : List Int} (hg : wr.grownBy w' row) (hk : ∀ k, row = some k → h1 ≤ k ∧ k < h2) (ho : OwnV x0 own' h1 h2 w') : NeedW w va vb S ns h1 x0 own' h2 x1 xs h3 x2 ys h4 w' := by
  have r1 := h.r1; have r2 := h.r2; have r3 := h.r3; have r4 := h.r4
  exact ⟨h.two.by' hg fun k e => by have := hk k e; omega, h.s.by' hg fun k e => by have := hk k e; omega, ho, h.o1.by' hg fun k e => by have := hk k e; omega, h.o2.by' hg fun k e => by have := hk k e; omega, r1, r2, r3, r4⟩
theorem NeedW.mark1 (h : NeedW w va vb S ns h1 x0 own h2 x1 xs h3 x2 ys h4 wr) {row : Option Nat} {xs' : List Int} (hg : wr.grownBy w' row) (hk : ∀ k, row = some k → h2 ≤ k ∧ k < h3) (ho : OwnR h3 x1 xs' h2 h3 w') : NeedW w va vb S ns h1 x0 own h2 x1 xs' h3 x2 ys h4 w' := by
  have r1 := h.r1; have r2 := h.r2; have r3 := h.r3; have r4 := h.r4
  exact ⟨h.two.by' hg fun k e => by have := hk k e; omega, h.s.by' hg fun k e => by have := hk k e; omega, h.o0.by' hg fun k e => by have := hk k e; omega, ho, h.o2.by' hg fun k e => by have := hk k e; omega, r1, r2, r3, r4⟩
theorem NeedW.mark2 (h : NeedW w va vb S ns h1 x0 own h2 x1 xs h3 x2 ys h4 wr) {row : Option Nat} {ys' : List Int} (hg : wr.grownBy w' row) (hk : ∀ k, row = some k → h3 + 1 ≤ k ∧ k < h4) (ho : OwnR h4 x2 ys' (h3 + 1) h4 w') : NeedW w va vb S ns h1 x0 own h2 x1 xs h3 x2 ys' h4 w' := by
  have r1 := h.r1; have r2 := h.r2; have r3 := h.r3; have r4 := h.r4
  exact ⟨h.two.by' hg fun k e => by have := hk k e; omega, h.s.by' hg fun k e => by have := hk k e; omega, h.o0.by' hg fun k e => by have := hk k e; omega, h.o1.by' hg fun k e => by have := hk k e; omega, ho, r1, r2, r3, r4⟩
end
end Go.Proofs.Ytbahokkofidmeaa
