/-
  A thing is shaded: the program's way on a heap in a box, the model's on a heap by value. A thing is shaded: the model's way. GcShade: the program and the model.
-/
import Derived.Test.YtbdljoldblpffaaGreatBoxH10
import Derived.OwnWalk
namespace Go.Proofs.YtbdljoldblpffaaGreat
open Go.RowKit
set_option linter.unusedVariables false
set_option maxRecDepth 100000

/-- Is a thing there to be shaded? -/
def shB (p : Int) (os : List Ob) (k : Nat) : Bool := decide (p = 0) && (!((obAt os k).kind == 0) && !(obAt os k).mark)
def shOs (p : Int) (os : List Ob) (k : Nat) : List Ob := if shB p os k then os.set k (marked (obAt os k) true) else os
def shXs (p : Int) (os : List Ob) (xs : List Int) (k : Nat) : List Int := if shB p os k then (if hasI xs (k : Int) then xs else xs ++ [(k : Int)]) else xs
theorem shOs_length (p : Int) (os : List Ob) (k : Nat) : (shOs p os k).length = os.length := by unfold shOs; split <;> simp
theorem shXs_length (p : Int) (os : List Ob) (xs : List Int) (k : Nat) : (shXs p os xs k).length ≤ xs.length + 1 := by
  unfold shXs
  split
  · split
    · omega
    · simp
  · omega
theorem shOs_no {p : Int} {os : List Ob} {k : Nat} (h : shB p os k = false) : shOs p os k = os := by unfold shOs; rw [h]; rfl
theorem shXs_no {p : Int} {os : List Ob} {xs : List Int} {k : Nat} (h : shB p os k = false) : shXs p os xs k = xs := by unfold shXs; rw [h]; rfl
theorem wpList_appH {ops : Array Oper} {rest : List Oper} {o : Oper} {a : Act} {Q : Exit → Act → World → Prop} {P : Value → World → Prop} (hgd : o.guard = none) (s x : Operand)
    (ho : o.op = .call { callee := .builtin .append, args := #[s, x], argTypes := #[23, 23] }) (W : World) (v u : Value) (hs : a.eval s = v) (hx : a.eval x = u)
    (H : ∃ v' w', (Builtin.append_ #[23, 23] o.type #[v, u]).run Tryz.prog W = .ok v' w' ∧ P v' w') (h : ∀ v' w', P v' w' → wpList Tryz.prog ops Q rest (a.put o.dst v') w') : wpList Tryz.prog ops Q (o :: rest) a W :=
  wpList_plain hgd fun K hK => wpO_app0 s x ho W v u hs hx H (fun v' w' hp => hK _ _ (h v' w' hp))
/-- One more number at the end of the list. -/
theorem BoxH.grey {lo b : Nat} {bs : List Nat} {p t r : Int} {os : List Ob} {xs : List Int} {g c : Nat} {G : Value} {w : World} (h : BoxH lo b bs p t r os xs g c G w) (hbs : ∀ k, k ∈ b :: bs → k < w.heap.size) (hl : lo ≤ w.heap.size) (y : Int) (hn : xs.length + 1 ≤ 1048576) (ty : TypeId) (q : Nat) (hq : w.heap[q]? = some (.cells #[.int .i64 y] 3 (0, 0))) :
    ∃ v' w', (Builtin.append_ #[23, 23] ty #[G, .slice (some ⟨q, 0, none⟩) 1 1]).run Tryz.prog w = .ok v' w' ∧ (∃ a n c', v' = .slice a n c') ∧ w'.heap[b]? = some (boxH (.slice (some ⟨g, 0, none⟩) os.length c) p t r G) ∧ (∀ k, k ∈ bs → w'.heap[k]? = w.heap[k]?) ∧ Below lo w w' ∧ BoxH lo b bs p t r os (xs ++ [y]) g c v' (w'.setCell ⟨b, 4, none⟩ v') := by
  obtain ⟨v', w', hr, h1, ⟨row, h2, h3⟩, h4⟩ := run_appI w lo w.heap.size G xs [y] ty h.own hl (Nat.le_refl _) q 1 1 rfl (by decide) (fun j u hj => by
    cases j with
    | zero => simp [icells] at hj; subst hj; simp [World.cell?, hq]
    | succ j => simp [icells] at hj) hn
  have hkeep : ∀ (k : Nat) x, k ∉ Go.Proofs.YtbdljoldblpffaaGreat.blk G → w.heap[k]? = some x → w'.heap[k]? = some x := fun k x hk hx => grown_kept h2 hx (fun e => hk (h3 k e))
  have hsz : w.heap.size ≤ w'.heap.size := h2.size
  have hB : Below lo w w' := (Below.refl lo w).grown h2 hl (fun k e => (h.own.blk (h3 k e)).1)
  obtain ⟨fs, rest, la, ha, e1, e2, e3, e4, e5, e6⟩ := h.got
  have hbx := hkeep b _ (h.not b (by simp)) h.box
  have hfar : ∀ k, k ∈ Go.Proofs.YtbdljoldblpffaaGreat.blk v' → k < la ∨ ha ≤ k := fun k hk => by
    rcases h4 k hk with e | e
    · exact e5 k e
    · exact .inr (by omega)
  have hnot : ∀ k, k ∈ b :: bs → k ∉ Go.Proofs.YtbdljoldblpffaaGreat.blk v' := fun k hk hm => by
    rcases h4 k hm with e | e
    · exact h.not k hk e
    · have := hbs k hk; omega
  refine ⟨v', w', hr, ?_, hbx, fun k hk => ?_, hB, ?_, h.low, ?_, hnot, fs, rest, la, ha, e1, ?_, e3, by simpa using Nat.le_trans e4 hsz, hfar, e6⟩
  · obtain ⟨a, c', e, _⟩ := h1
    exact ⟨_, _, _, e⟩
  · have hk2 := hbs k (by simp [hk])
    obtain ⟨x, hx⟩ : ∃ x, w.heap[k]? = some x := ⟨w.heap[k], by simp [hk2]⟩
    rw [hx]
    exact hkeep k x (h.not k (by simp [hk])) hx
  · have e := heap_setCell_same w' b 4 _ _ v' hbx
    simpa using e
  · have e : OwnI lo w'.heap.size (w'.setCell ⟨b, 4, none⟩ v') v' (xs ++ [y]) := h1.keepIf fun k x hk hx => setCell_keep (g := b) hx (fun e => hnot b (by simp) (e ▸ hk))
    simpa using e
  · exact (e2.keepIn2 (fun k x k1 k2 hx => hkeep k x (fun hm => by have := e5 k hm; omega) hx)).setOther (e6 b (by simp))
set_option maxHeartbeats 4000000 in
theorem iShade_phase (lo b : Nat) (p t r : Int) (os : List Ob) (xs : List Int) (g c : Nat) (G : Value) (k : Nat) (w : World) (h : BoxH lo b [] p t r os xs g c G w) (hk : k < os.length) (hl : lo ≤ w.heap.size) (hn : xs.length + 1 ≤ 1048576) (h1 : p ≠ 0) :
    Calls Tryz.prog 31 #[.pointer (some ⟨b, 0, none⟩), .int .i64 (k : Int)] w fun e w' => (∃ v, e = .returned v) ∧ (∃ G', BoxH lo b [] p t r os xs g c G' w') ∧ Below lo w w' := by
  obtain ⟨k0, k1, k2, k3, k4⟩ := cells5 h.box
  obtain ⟨l, d, m, hc, hff, _⟩ := h.at hk
  have c1 := hc.c1
  have c9 := hc.c9
  have hkz : (k : Int) < (os.length : Int) := by omega
  obtain ⟨u, d0, eG, _, _⟩ := id h.own
  subst eG
  have n1 : (p != 0) = true := by simp [h1]
  have H := hid_of h
  clear h hk hl hn hc hff c1 c9 h1
  go_enter Tryz.func31, Tryz.ntmps31
  go_wp2
  go_returns
  exact ⟨⟨_, rfl⟩, ⟨_, H.out⟩, Below.refl _ _⟩
set_option maxHeartbeats 4000000 in
theorem iShade_none (lo b : Nat) (p t r : Int) (os : List Ob) (xs : List Int) (g c : Nat) (G : Value) (k : Nat) (w : World) (h : BoxH lo b [] p t r os xs g c G w) (hk : k < os.length) (hl : lo ≤ w.heap.size) (hn : xs.length + 1 ≤ 1048576) (h1 : p = 0) (h2 : (obAt os k).kind = 0) :
    Calls Tryz.prog 31 #[.pointer (some ⟨b, 0, none⟩), .int .i64 (k : Int)] w fun e w' => (∃ v, e = .returned v) ∧ (∃ G', BoxH lo b [] p t r os xs g c G' w') ∧ Below lo w w' := by
  obtain ⟨k0, k1, k2, k3, k4⟩ := cells5 h.box
  obtain ⟨l, d, m, hc, hff, _⟩ := h.at hk
  have c1 := hc.c1
  have c9 := hc.c9
  have hkz : (k : Int) < (os.length : Int) := by omega
  obtain ⟨u, d0, eG, _, _⟩ := id h.own
  subst eG
  subst h1
  rw [h2] at c1
  have H := hid_of h
  clear h hl hn hc hff c9 h2
  go_enter Tryz.func31, Tryz.ntmps31
  go_wp2
  go_returns
  exact ⟨⟨_, rfl⟩, ⟨_, H.out⟩, Below.refl _ _⟩
set_option maxHeartbeats 4000000 in
theorem iShade_dark (lo b : Nat) (p t r : Int) (os : List Ob) (xs : List Int) (g c : Nat) (G : Value) (k : Nat) (w : World) (h : BoxH lo b [] p t r os xs g c G w) (hk : k < os.length) (hl : lo ≤ w.heap.size) (hn : xs.length + 1 ≤ 1048576) (h1 : p = 0) (h2 : (obAt os k).kind ≠ 0) (h3 : (obAt os k).mark = true) :
    Calls Tryz.prog 31 #[.pointer (some ⟨b, 0, none⟩), .int .i64 (k : Int)] w fun e w' => (∃ v, e = .returned v) ∧ (∃ G', BoxH lo b [] p t r os xs g c G' w') ∧ Below lo w w' := by
  obtain ⟨k0, k1, k2, k3, k4⟩ := cells5 h.box
  obtain ⟨l, d, m, hc, hff, _⟩ := h.at hk
  have c1 := hc.c1
  have c9 := hc.c9
  have hkz : (k : Int) < (os.length : Int) := by omega
  obtain ⟨u, d0, eG, _, _⟩ := id h.own
  subst eG
  subst h1
  rw [h3] at c9
  have n2 : ((obAt os k).kind == 0) = false := by simp [h2]
  generalize (obAt os k).kind = kd at c1 n2
  have H := hid_of h
  clear h hl hn hc hff h2 h3
  go_enter Tryz.func31, Tryz.ntmps31
  go_wp2
  go_returns
  exact ⟨⟨_, rfl⟩, ⟨_, H.out⟩, Below.refl _ _⟩
set_option maxHeartbeats 4000000 in
theorem iShade_held (lo b : Nat) (p t r : Int) (os : List Ob) (xs : List Int) (g c : Nat) (G : Value) (k : Nat) (w : World) (h : BoxH lo b [] p t r os xs g c G w) (hk : k < os.length) (hl : lo ≤ w.heap.size) (hn : xs.length + 1 ≤ 1048576) (h1 : p = 0) (h2 : (obAt os k).kind ≠ 0) (h3 : (obAt os k).mark = false) (h4 : hasI xs (k : Int) = true) :
    Calls Tryz.prog 31 #[.pointer (some ⟨b, 0, none⟩), .int .i64 (k : Int)] w fun e w' => (∃ v, e = .returned v) ∧ (∃ G', BoxH lo b [] p t r (os.set k (marked (obAt os k) true)) xs g c G' w') ∧ Below lo w w' := by
  obtain ⟨k0, k1, k2, k3, k4⟩ := cells5 h.box
  obtain ⟨l, d, m, hc, hff, _⟩ := h.at hk
  have c1 := hc.c1
  have c9 := hc.c9
  have hkz : (k : Int) < (os.length : Int) := by omega
  obtain ⟨u, d0, eG, _, _⟩ := id h.own
  subst eG
  subst h1
  rw [h3] at c9
  have n2 : ((obAt os k).kind == 0) = false := by simp [h2]
  generalize (obAt os k).kind = kd at c1 n2
  have f9 := hff (k * 13 + 9)
  have HM : Hid (BoxH lo b [] 0 t r (os.set k (marked (obAt os k) true)) xs g c (.slice u xs.length d0) (w.setCell ⟨g, k * 13 + 9, none⟩ (.bool true))) := h.mark hk true
  have HB : Hid (Below lo w (w.setCell ⟨g, k * 13 + 9, none⟩ (.bool true))) := h.below (Nat.le_refl _) (Below.refl _ _) _ _
  have HL : Hid ((os.set k (marked (obAt os k) true)).length = os.length) := by show _ = _; simp
  obtain ⟨j0, j1, j2, j3, j4⟩ := cells5 HM.out.box
  have jf := frozen_of HM.out.box
  have C := contains_any (.slice u xs.length d0) xs (k : Int) (w.setCell ⟨g, k * 13 + 9, none⟩ (.bool true)) HM.out.ints (by omega)
  rw [h4] at C
  rw [List.length_set] at j0
  have hbz := lt_of_block HM.out.box
  have HN := hid_of (And.intro hn hl)
  clear h hl hn hc hff h2 h3 h4
  clear hbz
  go_enter Tryz.func31, Tryz.ntmps31
  go_wp2_with fail
  refine C.mono ?_
  rintro e w1 ⟨rfl, rfl⟩
  clear C
  go_wp2
  go_returns
  exact ⟨⟨_, rfl⟩, ⟨_, HM.out⟩, HB.out⟩
set_option maxHeartbeats 4000000 in
theorem iShade_more (lo b : Nat) (p t r : Int) (os : List Ob) (xs : List Int) (g c : Nat) (G : Value) (k : Nat) (w : World) (h : BoxH lo b [] p t r os xs g c G w) (hk : k < os.length) (hl : lo ≤ w.heap.size) (hn : xs.length + 1 ≤ 1048576) (h1 : p = 0) (h2 : (obAt os k).kind ≠ 0) (h3 : (obAt os k).mark = false) (h4 : hasI xs (k : Int) = false) :
    Calls Tryz.prog 31 #[.pointer (some ⟨b, 0, none⟩), .int .i64 (k : Int)] w fun e w' => (∃ v, e = .returned v) ∧ (∃ G', BoxH lo b [] p t r (os.set k (marked (obAt os k) true)) (xs ++ [(k : Int)]) g c G' w') ∧ Below lo w w' := by
  obtain ⟨k0, k1, k2, k3, k4⟩ := cells5 h.box
  obtain ⟨l, d, m, hc, hff, _⟩ := h.at hk
  have c1 := hc.c1
  have c9 := hc.c9
  have hkz : (k : Int) < (os.length : Int) := by omega
  obtain ⟨u, d0, eG, _, _⟩ := id h.own
  subst eG
  subst h1
  rw [h3] at c9
  have n2 : ((obAt os k).kind == 0) = false := by simp [h2]
  generalize (obAt os k).kind = kd at c1 n2
  have f9 := hff (k * 13 + 9)
  have HM : Hid (BoxH lo b [] 0 t r (os.set k (marked (obAt os k) true)) xs g c (.slice u xs.length d0) (w.setCell ⟨g, k * 13 + 9, none⟩ (.bool true))) := h.mark hk true
  have HB : Hid (Below lo w (w.setCell ⟨g, k * 13 + 9, none⟩ (.bool true))) := h.below (Nat.le_refl _) (Below.refl _ _) _ _
  have HL : Hid ((os.set k (marked (obAt os k) true)).length = os.length) := by show _ = _; simp
  obtain ⟨j0, j1, j2, j3, j4⟩ := cells5 HM.out.box
  have jf := frozen_of HM.out.box
  have C := contains_any (.slice u xs.length d0) xs (k : Int) (w.setCell ⟨g, k * 13 + 9, none⟩ (.bool true)) HM.out.ints (by omega)
  rw [h4] at C
  rw [List.length_set] at j0
  have hbz := lt_of_block HM.out.box
  have HN := hid_of (And.intro hn hl)
  clear h hl hn hc hff h2 h3 h4
  obtain ⟨W, hW⟩ : ∃ W, W = w.setCell ⟨g, k * 13 + 9, none⟩ (.bool true) := ⟨_, rfl⟩
  have HA : Hid (∃ v' w', (Builtin.append_ #[23, 23] 23 #[.slice u xs.length d0, .slice (some ⟨W.heap.size, 0, none⟩) 1 1]).run Tryz.prog (W.alloc (.cells #[.int .i64 (k : Int)] 3 (0, 0))) = .ok v' w' ∧ (∃ a n c', v' = .slice a n c') ∧ (∃ A c1 c2 c3 c4, w'.heap[b]? = some (.cells #[A, c1, c2, c3, c4] 32 (0, 0))) ∧ BoxH lo b [] 0 t r (os.set k (marked (obAt os k) true)) (xs ++ [(k : Int)]) g c v' (w'.setCell ⟨b, 4, none⟩ v') ∧ Below lo w (w'.setCell ⟨b, 4, none⟩ v')) := by
    have hm := HM.out
    rw [← hW] at hm hbz
    have hb2 := below_alloc W (.cells #[.int .i64 (k : Int)] 3 (0, 0))
    have hwz : W.heap.size = w.heap.size := by rw [hW]; simp
    have hn := HN.out
    obtain ⟨v', w', e1, e2, e3, e4, e5, e6⟩ := (hm.on hb2).grey (fun x hx => by simp at hx; subst hx; simp; omega) (by simp; omega) (k : Int) hn.1 23 W.heap.size (heap_alloc_new W _)
    refine ⟨v', w', e1, e2, ⟨_, _, _, _, _, e3⟩, e6, ?_⟩
    have e7 : Below lo w W := by rw [hW]; exact HB.out
    exact ((e7.trans (hb2.mono (by omega))).trans e5).setCell hm.low _
  have HWZ : Hid (W.heap.size = w.heap.size) := by show _ = _; rw [hW]; simp
  clear hbz HM HN
  go_enter Tryz.func31, Tryz.ntmps31
  go_wp2_with fail
  refine C.mono ?_
  rintro e w1 ⟨rfl, rfl⟩
  clear C
  rw [← hW] at j0 j1 j2 j3 j4 jf ⊢
  clear hW
  go_wp2_with (at_builtin; refine wpList_appH (P := fun v' w' => (∃ a n c', v' = .slice a n c') ∧ (∃ A c1 c2 c3 c4, w'.heap[b]? = some (.cells #[A, c1, c2, c3, c4] 32 (0, 0))) ∧ BoxH lo b [] 0 t r (os.set k (marked (obAt os k) true)) (xs ++ [(k : Int)]) g c v' (w'.setCell ⟨b, 4, none⟩ v') ∧ Below lo w (w'.setCell ⟨b, 4, none⟩ v')) rfl (.tmp 51) (.tmp 53) rfl (W.alloc (.cells #[.int .i64 (k : Int)] 3 (0, 0))) _ _ rfl rfl HA.out ?_; rintro v' w' ⟨⟨a1, n1, c1', rfl⟩, ⟨bA, b1, b2, b3, b4, hbx⟩, hX, hB'⟩; have HX := hid_of (And.intro hX hB'); obtain ⟨i0, i1, i2, i3, i4⟩ := cells5 hbx; have kf := frozen_of hbx; clear hX hB' hbx HA j0 j1 j2 j3 j4 jf k0 k1 k2 k3 k4)
  go_returns
  exact ⟨⟨_, rfl⟩, ⟨_, HX.out.1⟩, HX.out.2⟩
theorem implShade_any (lo b : Nat) (p t r : Int) (os : List Ob) (xs : List Int) (g c : Nat) (G : Value) (k : Nat) (w : World) (h : BoxH lo b [] p t r os xs g c G w) (hk : k < os.length) (hl : lo ≤ w.heap.size) (hn : xs.length + 1 ≤ 1048576) :
    Calls Tryz.prog 31 #[.pointer (some ⟨b, 0, none⟩), .int .i64 (k : Int)] w fun e w' => (∃ v, e = .returned v) ∧ (∃ G', BoxH lo b [] p t r (shOs p os k) (shXs p os xs k) g c G' w') ∧ Below lo w w' := by
  by_cases h1 : p = 0
  · by_cases h2 : (obAt os k).kind = 0
    · have e : shB p os k = false := by unfold shB; simp [h2]
      rw [shOs_no e, shXs_no e]
      exact iShade_none lo b p t r os xs g c G k w h hk hl hn h1 h2
    · cases h3 : (obAt os k).mark with
      | true =>
        have e : shB p os k = false := by unfold shB; simp [h3]
        rw [shOs_no e, shXs_no e]
        exact iShade_dark lo b p t r os xs g c G k w h hk hl hn h1 h2 h3
      | false =>
        have e : shB p os k = true := by unfold shB; simp [h1, h2, h3]
        unfold shOs shXs
        rw [e]
        cases h4 : hasI xs (k : Int) with
        | true => exact iShade_held lo b p t r os xs g c G k w h hk hl hn h1 h2 h3 h4
        | false => exact iShade_more lo b p t r os xs g c G k w h hk hl hn h1 h2 h3 h4
  · have e : shB p os k = false := by unfold shB; simp [h1]
    rw [shOs_no e, shXs_no e]
    exact iShade_phase lo b p t r os xs g c G k w h hk hl hn h1
end Go.Proofs.YtbdljoldblpffaaGreat
namespace Go.Proofs.YtbdljoldblpffaaGreat
open Go.RowKit
set_option linter.unusedVariables false
set_option maxRecDepth 100000

/-- A heap in a box, and the cell into which the answer goes. -/
structure EndS (w0 : World) (lo b R : Nat) (p t r : Int) (os : List Ob) (xs : List Int) (g c : Nat) (G : Value) (wz : World) : Prop where
  base : Below lo w0 wz
  bx : BoxH lo b [R] p t r os xs g c G wz
  res : ∃ v0 v1 v2 v3 v4, wz.heap[R]? = some (.cells #[v0, v1, v2, v3, v4] 32 (0, 0))
  ne : b ≠ R
  low : lo ≤ R
theorem GotH.boxed2 {lo : Nat} {p t r : Int} {os : List Ob} {xs : List Int} {g c : Nat} {G : Value} {w : World} (h : GotH lo w.heap.size os xs (.slice (some ⟨g, 0, none⟩) os.length c) G w) (hl : lo ≤ w.heap.size) : EndS w lo w.heap.size (w.heap.size + 1) p t r os xs g c G ((w.alloc (boxH (.slice (some ⟨g, 0, none⟩) os.length c) p t r G)).alloc (boxH (.slice none 0 0) 0 0 0 (.slice none 0 0))) := by
  obtain ⟨g', c', fs, rest, la, ha, e, h2, h3, h4, h5, h6, h7, h8⟩ := h
  simp at e
  obtain ⟨rfl, rfl⟩ := e
  have hb1 := below_alloc w (boxH (.slice (some ⟨g, 0, none⟩) os.length c) p t r G)
  have hb2 := below_alloc (w.alloc (boxH (.slice (some ⟨g, 0, none⟩) os.length c) p t r G)) (boxH (.slice none 0 0) 0 0 0 (.slice none 0 0))
  have hb : Below w.heap.size w ((w.alloc (boxH (.slice (some ⟨g, 0, none⟩) os.length c) p t r G)).alloc (boxH (.slice none 0 0) 0 0 0 (.slice none 0 0))) := below_more hb1 hb2
  refine ⟨hb.mono hl, ⟨(heap_alloc_old _ _ (by simp)).trans (heap_alloc_new w _), hl, ownI_more h4 hb, fun k hk hm => ?_, fs, rest, la, ha, h2, h3.on hb, h6, Nat.le_trans h8 hb.size, h5, fun k hk => ?_⟩, ⟨_, _, _, _, _, heap_alloc_at0 w _ _⟩, by omega, by omega⟩
  · have := (h4.blk hm).2.1
    simp at hk
    omega
  · simp at hk
    right; omega
theorem EndS.ans {w0 : World} {lo b R : Nat} {p t r : Int} {os : List Ob} {xs : List Int} {g c : Nat} {G : Value} {wz : World} (h : EndS w0 lo b R p t r os xs g c G wz) (p' t' r' : Int) : (wq5 wz R 0 (.slice (some ⟨g, 0, none⟩) os.length c) p' t' r' G).heap[R]? = some (boxH (.slice (some ⟨g, 0, none⟩) os.length c) p' t' r' G) ∧ GotH lo (wq5 wz R 0 (.slice (some ⟨g, 0, none⟩) os.length c) p' t' r' G).heap.size os xs (.slice (some ⟨g, 0, none⟩) os.length c) G (wq5 wz R 0 (.slice (some ⟨g, 0, none⟩) os.length c) p' t' r' G) ∧ Below lo w0 (wq5 wz R 0 (.slice (some ⟨g, 0, none⟩) os.length c) p' t' r' G) := by
  obtain ⟨_, _, _, _, _, h2⟩ := h.res
  obtain ⟨fs, rest, la, ha, e1, e2, e3, e4, e5, e6⟩ := h.bx.got
  have hR := e6 R (by simp)
  refine ⟨heap_wq5_new h2 _ _ _ _ _, ⟨g, c, fs, rest, la, ha, rfl, e1, e2.keepIn2 (fun k x k1 k2 hx => heap_wq5_other hx (by omega) _ _ _ _ _ _), ?_, e5, e3, by rw [size_wq5]; exact e4, by rw [size_wq5]; exact e4⟩, below_wq5 h.base h.low 0 _ _ _ _ _⟩
  rw [size_wq5]
  exact h.bx.own.keepIf fun k x hk hx => heap_wq5_other (g := R) hx (fun e => h.bx.not R (by simp) (e ▸ hk)) _ _ _ _ _ _
theorem EndS.on {w0 : World} {lo b R : Nat} {p t r : Int} {os : List Ob} {xs : List Int} {g c : Nat} {G : Value} {wz w' : World} (h : EndS w0 lo b R p t r os xs g c G wz) (hb : Below wz.heap.size wz w') (hl : lo ≤ wz.heap.size) : EndS w0 lo b R p t r os xs g c G w' := by
  obtain ⟨_, _, _, _, _, h2⟩ := h.res
  exact ⟨h.base.trans (hb.mono hl), h.bx.on hb, ⟨_, _, _, _, _, keep h2 hb⟩, h.ne, h.low⟩
theorem EndS.mark {w0 : World} {lo b R : Nat} {p t r : Int} {os : List Ob} {xs : List Int} {g c : Nat} {G : Value} {wz : World} (h : EndS w0 lo b R p t r os xs g c G wz) {k : Nat} (hk : k < os.length) (v : Bool) : EndS w0 lo b R p t r (os.set k (marked (obAt os k) v)) xs g c G (wz.setCell ⟨g, k * 13 + 9, none⟩ (.bool v)) := by
  obtain ⟨_, _, _, _, _, h2⟩ := h.res
  refine ⟨h.bx.below (Nat.le_refl _) h.base _ _, h.bx.mark hk v, ⟨_, _, _, _, _, setCell_keep h2 ?_⟩, h.ne, h.low⟩
  obtain ⟨fs, rest, la, ha, e1, e2, e3, e4, e5, e6⟩ := h.bx.got
  have := e6 R (by simp)
  have := e2.lo
  have := e2.hi
  omega
set_option maxHeartbeats 4000000 in
theorem sShade_phase (lo : Nat) (p t r : Int) (os : List Ob) (xs : List Int) (g c : Nat) (G : Value) (k : Nat) (w : World) (h : GotH lo w.heap.size os xs (.slice (some ⟨g, 0, none⟩) os.length c) G w) (hk : k < os.length) (hl : lo ≤ w.heap.size) (hn : xs.length + 1 ≤ 1048576) (h1 : p ≠ 0) :
    Calls Tryz.prog 25 #[hpV (.slice (some ⟨g, 0, none⟩) os.length c) p t r G, .int .i64 (k : Int)] w fun e w' => (∃ G', e = .returned (hpV (.slice (some ⟨g, 0, none⟩) os.length c) p t r G') ∧ GotH lo w'.heap.size os xs (.slice (some ⟨g, 0, none⟩) os.length c) G' w') ∧ Below lo w w' := by
  obtain ⟨_, _, u, d0, eA, rfl⟩ := h.form
  simp at eA
  obtain ⟨rfl, rfl⟩ := eA
  obtain ⟨W, hW⟩ : ∃ W, W = (w.alloc (boxH (.slice (some ⟨g, 0, none⟩) os.length c) p t r (.slice u xs.length d0))).alloc (boxH (.slice none 0 0) 0 0 0 (.slice none 0 0)) := ⟨_, rfl⟩
  have HE := hid_of (h.boxed2 (p := p) (t := t) (r := r) hl)
  have hws : W.heap.size = w.heap.size + 1 + 1 := by rw [hW]; simp
  obtain ⟨l, d, m, hc, hff, _⟩ := HE.out.bx.at hk
  obtain ⟨k0, k1, k2, k3, k4⟩ := cells5 HE.out.bx.box
  have c1 := hc.c1
  have c9 := hc.c9
  have hkz : (k : Int) < (os.length : Int) := by omega
  have n1 : (p == 0) = false := by simp [h1]
  have HG : Hid (∀ w', Below w.heap.size w w' → GotH lo w'.heap.size os xs (.slice (some ⟨g, 0, none⟩) os.length c) (.slice u xs.length d0) w' ∧ Below lo w w') := fun w' hb => ⟨(h.on hb).wide (Nat.le_refl _) hb.size, hb.mono hl⟩
  clear h hk hl hn hc hff c1 c9 h1 hW hws HE k0 k1 k2 k3 k4
  go_enter Tryz.func25, Tryz.ntmps25
  go_wp2
  refine bodyPost_ret (v := hpV (.slice (some ⟨g, 0, none⟩) os.length c) p t r (.slice u xs.length d0)) (by simp [results, go_sem]) rfl ⟨⟨_, rfl, (HG.out _ (by go_grown)).1⟩, (HG.out _ (by go_grown)).2⟩
set_option maxHeartbeats 4000000 in
theorem sShade_none (lo : Nat) (p t r : Int) (os : List Ob) (xs : List Int) (g c : Nat) (G : Value) (k : Nat) (w : World) (h : GotH lo w.heap.size os xs (.slice (some ⟨g, 0, none⟩) os.length c) G w) (hk : k < os.length) (hl : lo ≤ w.heap.size) (hn : xs.length + 1 ≤ 1048576) (h1 : p = 0) (h2 : (obAt os k).kind = 0) :
    Calls Tryz.prog 25 #[hpV (.slice (some ⟨g, 0, none⟩) os.length c) p t r G, .int .i64 (k : Int)] w fun e w' => (∃ G', e = .returned (hpV (.slice (some ⟨g, 0, none⟩) os.length c) p t r G') ∧ GotH lo w'.heap.size os xs (.slice (some ⟨g, 0, none⟩) os.length c) G' w') ∧ Below lo w w' := by
  subst h1
  obtain ⟨_, _, u, d0, eA, rfl⟩ := h.form
  simp at eA
  obtain ⟨rfl, rfl⟩ := eA
  obtain ⟨W, hW⟩ : ∃ W, W = (w.alloc (boxH (.slice (some ⟨g, 0, none⟩) os.length c) 0 t r (.slice u xs.length d0))).alloc (boxH (.slice none 0 0) 0 0 0 (.slice none 0 0)) := ⟨_, rfl⟩
  have HE := hid_of (h.boxed2 (p := 0) (t := t) (r := r) hl)
  have hws : W.heap.size = w.heap.size + 1 + 1 := by rw [hW]; simp
  obtain ⟨l, d, m, hc, hff, _⟩ := HE.out.bx.at hk
  obtain ⟨k0, k1, k2, k3, k4⟩ := cells5 HE.out.bx.box
  have c1 := hc.c1
  have c9 := hc.c9
  have hkz : (k : Int) < (os.length : Int) := by omega
  rw [h2] at c1
  have HG : Hid (∀ w', Below w.heap.size w w' → GotH lo w'.heap.size os xs (.slice (some ⟨g, 0, none⟩) os.length c) (.slice u xs.length d0) w' ∧ Below lo w w') := fun w' hb => ⟨(h.on hb).wide (Nat.le_refl _) hb.size, hb.mono hl⟩
  clear h hl hn hc hff c9 h2 hW hws HE
  go_enter Tryz.func25, Tryz.ntmps25
  go_wp2
  refine bodyPost_ret (v := hpV (.slice (some ⟨g, 0, none⟩) os.length c) 0 t r (.slice u xs.length d0)) (by simp [results, go_sem]) rfl ⟨⟨_, rfl, (HG.out _ (by go_grown)).1⟩, (HG.out _ (by go_grown)).2⟩
set_option maxHeartbeats 4000000 in
theorem sShade_dark (lo : Nat) (p t r : Int) (os : List Ob) (xs : List Int) (g c : Nat) (G : Value) (k : Nat) (w : World) (h : GotH lo w.heap.size os xs (.slice (some ⟨g, 0, none⟩) os.length c) G w) (hk : k < os.length) (hl : lo ≤ w.heap.size) (hn : xs.length + 1 ≤ 1048576) (h1 : p = 0) (h2 : (obAt os k).kind ≠ 0) (h3 : (obAt os k).mark = true) :
    Calls Tryz.prog 25 #[hpV (.slice (some ⟨g, 0, none⟩) os.length c) p t r G, .int .i64 (k : Int)] w fun e w' => (∃ G', e = .returned (hpV (.slice (some ⟨g, 0, none⟩) os.length c) p t r G') ∧ GotH lo w'.heap.size os xs (.slice (some ⟨g, 0, none⟩) os.length c) G' w') ∧ Below lo w w' := by
  subst h1
  obtain ⟨_, _, u, d0, eA, rfl⟩ := h.form
  simp at eA
  obtain ⟨rfl, rfl⟩ := eA
  obtain ⟨W, hW⟩ : ∃ W, W = (w.alloc (boxH (.slice (some ⟨g, 0, none⟩) os.length c) 0 t r (.slice u xs.length d0))).alloc (boxH (.slice none 0 0) 0 0 0 (.slice none 0 0)) := ⟨_, rfl⟩
  have HE := hid_of (h.boxed2 (p := 0) (t := t) (r := r) hl)
  have hws : W.heap.size = w.heap.size + 1 + 1 := by rw [hW]; simp
  obtain ⟨l, d, m, hc, hff, _⟩ := HE.out.bx.at hk
  obtain ⟨k0, k1, k2, k3, k4⟩ := cells5 HE.out.bx.box
  have c1 := hc.c1
  have c9 := hc.c9
  have hkz : (k : Int) < (os.length : Int) := by omega
  rw [h3] at c9
  have n2 : ((obAt os k).kind != 0) = true := by simp [h2]
  generalize (obAt os k).kind = kd at c1 n2
  have HG : Hid (∀ w', Below w.heap.size w w' → GotH lo w'.heap.size os xs (.slice (some ⟨g, 0, none⟩) os.length c) (.slice u xs.length d0) w' ∧ Below lo w w') := fun w' hb => ⟨(h.on hb).wide (Nat.le_refl _) hb.size, hb.mono hl⟩
  clear h hl hn hc hff h2 h3 hW hws HE
  go_enter Tryz.func25, Tryz.ntmps25
  go_wp2
  refine bodyPost_ret (v := hpV (.slice (some ⟨g, 0, none⟩) os.length c) 0 t r (.slice u xs.length d0)) (by simp [results, go_sem]) rfl ⟨⟨_, rfl, (HG.out _ (by go_grown)).1⟩, (HG.out _ (by go_grown)).2⟩
set_option maxHeartbeats 4000000 in
theorem sShade_held (lo : Nat) (p t r : Int) (os : List Ob) (xs : List Int) (g c : Nat) (G : Value) (k : Nat) (w : World) (h : GotH lo w.heap.size os xs (.slice (some ⟨g, 0, none⟩) os.length c) G w) (hk : k < os.length) (hl : lo ≤ w.heap.size) (hn : xs.length + 1 ≤ 1048576) (h1 : p = 0) (h2 : (obAt os k).kind ≠ 0) (h3 : (obAt os k).mark = false) (h4 : hasI xs (k : Int) = true) :
    Calls Tryz.prog 25 #[hpV (.slice (some ⟨g, 0, none⟩) os.length c) p t r G, .int .i64 (k : Int)] w fun e w' => (∃ G', e = .returned (hpV (.slice (some ⟨g, 0, none⟩) os.length c) p t r G') ∧ GotH lo w'.heap.size (os.set k (marked (obAt os k) true)) xs (.slice (some ⟨g, 0, none⟩) os.length c) G' w') ∧ Below lo w w' := by
  subst h1
  obtain ⟨_, _, u, d0, eA, rfl⟩ := h.form
  simp at eA
  obtain ⟨rfl, rfl⟩ := eA
  obtain ⟨W, hW⟩ : ∃ W, W = (w.alloc (boxH (.slice (some ⟨g, 0, none⟩) os.length c) 0 t r (.slice u xs.length d0))).alloc (boxH (.slice none 0 0) 0 0 0 (.slice none 0 0)) := ⟨_, rfl⟩
  have HE := hid_of (h.boxed2 (p := 0) (t := t) (r := r) hl)
  have hws : W.heap.size = w.heap.size + 1 + 1 := by rw [hW]; simp
  obtain ⟨l, d, m, hc, hff, _⟩ := HE.out.bx.at hk
  obtain ⟨k0, k1, k2, k3, k4⟩ := cells5 HE.out.bx.box
  have c1 := hc.c1
  have c9 := hc.c9
  have hkz : (k : Int) < (os.length : Int) := by omega
  rw [h3] at c9
  have n2 : ((obAt os k).kind != 0) = true := by simp [h2]
  generalize (obAt os k).kind = kd at c1 n2
  have f9 := hff (k * 13 + 9)
  have HM : Hid (EndS w lo w.heap.size (w.heap.size + 1) 0 t r (os.set k (marked (obAt os k) true)) xs g c (.slice u xs.length d0) (((w.alloc (boxH (.slice (some ⟨g, 0, none⟩) os.length c) 0 t r (.slice u xs.length d0))).alloc (boxH (.slice none 0 0) 0 0 0 (.slice none 0 0))).setCell ⟨g, k * 13 + 9, none⟩ (.bool true))) := HE.out.mark hk true
  have HL : Hid ((os.set k (marked (obAt os k) true)).length = os.length) := by show _ = _; simp
  obtain ⟨j0, j1, j2, j3, j4⟩ := cells5 HM.out.bx.box
  obtain ⟨r0, r1, r2, r3, r4, hrs⟩ := HM.out.res
  obtain ⟨m0, m1, m2, m3, m4⟩ := cells5 hrs
  have mf := frozen_of hrs
  have C := specHas_any (.slice u xs.length d0) xs (k : Int) (((w.alloc (boxH (.slice (some ⟨g, 0, none⟩) os.length c) 0 t r (.slice u xs.length d0))).alloc (boxH (.slice none 0 0) 0 0 0 (.slice none 0 0))).setCell ⟨g, k * 13 + 9, none⟩ (.bool true)) HM.out.bx.ints (by omega)
  rw [h4] at C
  rw [List.length_set] at j0
  have HN := hid_of (And.intro hn hl)
  clear h hl hn hc hff h2 h3 h4 hrs HE
  clear hW hws
  go_enter Tryz.func25, Tryz.ntmps25
  go_wp2_with fail
  refine C.mono ?_
  rintro e w1 ⟨rfl, rfl⟩
  clear C
  go_wp2
  have HA := hid_of (HM.out.ans 0 t r)
  rw [HL.out] at HA
  show bodyPost _ _ _ _ _ (wq5 _ (w.heap.size + 1) 0 (.slice (some ⟨g, 0, none⟩) os.length c) 0 t r (.slice u xs.length d0))
  refine bodyPost_ret (v := hpV (.slice (some ⟨g, 0, none⟩) os.length c) 0 t r (.slice u xs.length d0)) (by have e := HA.out.1; simp [results, go_sem, World.cell?, e]) rfl ⟨⟨_, rfl, HA.out.2.1⟩, HA.out.2.2⟩
set_option maxHeartbeats 4000000 in
theorem sShade_more (lo : Nat) (p t r : Int) (os : List Ob) (xs : List Int) (g c : Nat) (G : Value) (k : Nat) (w : World) (h : GotH lo w.heap.size os xs (.slice (some ⟨g, 0, none⟩) os.length c) G w) (hk : k < os.length) (hl : lo ≤ w.heap.size) (hn : xs.length + 1 ≤ 1048576) (h1 : p = 0) (h2 : (obAt os k).kind ≠ 0) (h3 : (obAt os k).mark = false) (h4 : hasI xs (k : Int) = false) :
    Calls Tryz.prog 25 #[hpV (.slice (some ⟨g, 0, none⟩) os.length c) p t r G, .int .i64 (k : Int)] w fun e w' => (∃ G', e = .returned (hpV (.slice (some ⟨g, 0, none⟩) os.length c) p t r G') ∧ GotH lo w'.heap.size (os.set k (marked (obAt os k) true)) (xs ++ [(k : Int)]) (.slice (some ⟨g, 0, none⟩) os.length c) G' w') ∧ Below lo w w' := by
  subst h1
  obtain ⟨_, _, u, d0, eA, rfl⟩ := h.form
  simp at eA
  obtain ⟨rfl, rfl⟩ := eA
  obtain ⟨W, hW⟩ : ∃ W, W = (w.alloc (boxH (.slice (some ⟨g, 0, none⟩) os.length c) 0 t r (.slice u xs.length d0))).alloc (boxH (.slice none 0 0) 0 0 0 (.slice none 0 0)) := ⟨_, rfl⟩
  have HE := hid_of (h.boxed2 (p := 0) (t := t) (r := r) hl)
  have hws : W.heap.size = w.heap.size + 1 + 1 := by rw [hW]; simp
  obtain ⟨l, d, m, hc, hff, _⟩ := HE.out.bx.at hk
  obtain ⟨k0, k1, k2, k3, k4⟩ := cells5 HE.out.bx.box
  have c1 := hc.c1
  have c9 := hc.c9
  have hkz : (k : Int) < (os.length : Int) := by omega
  rw [h3] at c9
  have n2 : ((obAt os k).kind != 0) = true := by simp [h2]
  generalize (obAt os k).kind = kd at c1 n2
  have f9 := hff (k * 13 + 9)
  have HM : Hid (EndS w lo w.heap.size (w.heap.size + 1) 0 t r (os.set k (marked (obAt os k) true)) xs g c (.slice u xs.length d0) (((w.alloc (boxH (.slice (some ⟨g, 0, none⟩) os.length c) 0 t r (.slice u xs.length d0))).alloc (boxH (.slice none 0 0) 0 0 0 (.slice none 0 0))).setCell ⟨g, k * 13 + 9, none⟩ (.bool true))) := HE.out.mark hk true
  have HL : Hid ((os.set k (marked (obAt os k) true)).length = os.length) := by show _ = _; simp
  obtain ⟨j0, j1, j2, j3, j4⟩ := cells5 HM.out.bx.box
  obtain ⟨r0, r1, r2, r3, r4, hrs⟩ := HM.out.res
  obtain ⟨m0, m1, m2, m3, m4⟩ := cells5 hrs
  have mf := frozen_of hrs
  have C := specHas_any (.slice u xs.length d0) xs (k : Int) (((w.alloc (boxH (.slice (some ⟨g, 0, none⟩) os.length c) 0 t r (.slice u xs.length d0))).alloc (boxH (.slice none 0 0) 0 0 0 (.slice none 0 0))).setCell ⟨g, k * 13 + 9, none⟩ (.bool true)) HM.out.bx.ints (by omega)
  rw [h4] at C
  rw [List.length_set] at j0
  have HN := hid_of (And.intro hn hl)
  clear h hl hn hc hff h2 h3 h4 hrs HE
  obtain ⟨V, hV⟩ : ∃ V, V = ((w.alloc (boxH (.slice (some ⟨g, 0, none⟩) os.length c) 0 t r (.slice u xs.length d0))).alloc (boxH (.slice none 0 0) 0 0 0 (.slice none 0 0))).setCell ⟨g, k * 13 + 9, none⟩ (.bool true) := ⟨_, rfl⟩
  have HP : Hid (∃ v' w', (Builtin.append_ #[23, 23] 23 #[.slice u xs.length d0, .slice (some ⟨V.heap.size, 0, none⟩) 1 1]).run Tryz.prog (V.alloc (.cells #[.int .i64 (k : Int)] 3 (0, 0))) = .ok v' w' ∧ (∃ a n c', v' = .slice a n c') ∧ (∃ A c1 c2 c3 c4, w'.heap[w.heap.size]? = some (.cells #[A, c1, c2, c3, c4] 32 (0, 0))) ∧ EndS w lo w.heap.size (w.heap.size + 1) 0 t r (os.set k (marked (obAt os k) true)) (xs ++ [(k : Int)]) g c v' (w'.setCell ⟨w.heap.size, 4, none⟩ v')) := by
    have hm := HM.out
    rw [← hV] at hm
    have hb2 := below_alloc V (.cells #[.int .i64 (k : Int)] 3 (0, 0))
    have hwz : V.heap.size = w.heap.size + 1 + 1 := by rw [hV]; simp
    have hn := HN.out
    have hlv : lo ≤ V.heap.size := by omega
    have hE := hm.on hb2 hlv
    obtain ⟨v', w', e1, e2, e3, e4, e5, e6⟩ := hE.bx.grey (fun x hx => by simp at hx; simp; omega) (by simp; omega) (k : Int) hn.1 23 V.heap.size (heap_alloc_new V _)
    refine ⟨v', w', e1, e2, ⟨_, _, _, _, _, e3⟩, ?_, e6, ?_, hE.ne, hE.low⟩
    · exact (hE.base.trans e5).setCell hm.bx.low _
    · obtain ⟨_, _, _, _, _, hr⟩ := hE.res
      exact ⟨_, _, _, _, _, setCell_keep ((e4 (w.heap.size + 1) (by simp)).trans hr) (Ne.symm hE.ne)⟩
  clear HM HN hW hws
  go_enter Tryz.func25, Tryz.ntmps25
  go_wp2_with fail
  refine C.mono ?_
  rintro e w1 ⟨rfl, rfl⟩
  clear C
  rw [← hV] at j0 j1 j2 j3 j4 m0 m1 m2 m3 m4 mf ⊢
  clear hV k0 k1 k2 k3 k4 m0 m1 m2 m3 m4 mf
  go_wp2_with (at_builtin; refine wpList_appH (P := fun v' w' => (∃ a n c', v' = .slice a n c') ∧ (∃ A c1 c2 c3 c4, w'.heap[w.heap.size]? = some (.cells #[A, c1, c2, c3, c4] 32 (0, 0))) ∧ EndS w lo w.heap.size (w.heap.size + 1) 0 t r (os.set k (marked (obAt os k) true)) (xs ++ [(k : Int)]) g c v' (w'.setCell ⟨w.heap.size, 4, none⟩ v')) rfl (.tmp 40) (.tmp 42) rfl (V.alloc (.cells #[.int .i64 (k : Int)] 3 (0, 0))) _ _ rfl rfl HP.out ?_; rintro v' w' ⟨⟨a1, n1, c1', rfl⟩, ⟨bA, b1, b2, b3, b4, hbx⟩, hX⟩; have HX := hid_of hX; obtain ⟨i0, i1, i2, i3, i4⟩ := cells5 hbx; have kf := frozen_of hbx; obtain ⟨y0, y1, y2, y3, y4⟩ := cells5 hX.bx.box; have yf := frozen_of hX.bx.box; obtain ⟨r0, r1, r2, r3, r4, hrs⟩ := hX.res; obtain ⟨m0, m1, m2, m3, m4⟩ := cells5 hrs; have mf := frozen_of hrs; rw [List.length_set] at y0; clear hrs hX hbx HP j0 j1 j2 j3 j4)
  have HA := hid_of (HX.out.ans 0 t r)
  rw [HL.out] at HA
  show bodyPost _ _ _ _ _ (wq5 _ (w.heap.size + 1) 0 (.slice (some ⟨g, 0, none⟩) os.length c) 0 t r (.slice a1 n1 c1'))
  refine bodyPost_ret (v := hpV (.slice (some ⟨g, 0, none⟩) os.length c) 0 t r (.slice a1 n1 c1')) (by have e := HA.out.1; simp [results, go_sem, World.cell?, e]) rfl ⟨⟨_, rfl, HA.out.2.1⟩, HA.out.2.2⟩
theorem specShadeV_any (lo : Nat) (p t r : Int) (os : List Ob) (xs : List Int) (g c : Nat) (G : Value) (k : Nat) (w : World) (h : GotH lo w.heap.size os xs (.slice (some ⟨g, 0, none⟩) os.length c) G w) (hk : k < os.length) (hl : lo ≤ w.heap.size) (hn : xs.length + 1 ≤ 1048576) :
    Calls Tryz.prog 25 #[hpV (.slice (some ⟨g, 0, none⟩) os.length c) p t r G, .int .i64 (k : Int)] w fun e w' => (∃ G', e = .returned (hpV (.slice (some ⟨g, 0, none⟩) os.length c) p t r G') ∧ GotH lo w'.heap.size (shOs p os k) (shXs p os xs k) (.slice (some ⟨g, 0, none⟩) os.length c) G' w') ∧ Below lo w w' := by
  by_cases h1 : p = 0
  · by_cases h2 : (obAt os k).kind = 0
    · have e : shB p os k = false := by unfold shB; simp [h2]
      rw [shOs_no e, shXs_no e]
      exact sShade_none lo p t r os xs g c G k w h hk hl hn h1 h2
    · cases h3 : (obAt os k).mark with
      | true =>
        have e : shB p os k = false := by unfold shB; simp [h3]
        rw [shOs_no e, shXs_no e]
        exact sShade_dark lo p t r os xs g c G k w h hk hl hn h1 h2 h3
      | false =>
        have e : shB p os k = true := by unfold shB; simp [h1, h2, h3]
        unfold shOs shXs
        rw [e]
        cases h4 : hasI xs (k : Int) with
        | true => exact sShade_held lo p t r os xs g c G k w h hk hl hn h1 h2 h3 h4
        | false => exact sShade_more lo p t r os xs g c G k w h hk hl hn h1 h2 h3 h4
  · have e : shB p os k = false := by unfold shB; simp [h1]
    rw [shOs_no e, shXs_no e]
    exact sShade_phase lo p t r os xs g c G k w h hk hl hn h1
end Go.Proofs.YtbdljoldblpffaaGreat
namespace Go.Proofs.YtbdljoldblpffaaGreat
open Go.RowKit
set_option linter.unusedVariables false
set_option maxRecDepth 100000

theorem keepLow {B : Nat} {w w' : World} (hb : Below B w w') {k : Nat} (hk : k < B) {x : Obj} (h : w.heap[k]? = some x) : w'.heap[k]? = some x := (hb.block k hk).trans h
theorem BoxH.gotH {lo b : Nat} {bs : List Nat} {p t r : Int} {os : List Ob} {xs : List Int} {g c : Nat} {G : Value} {w : World} (h : BoxH lo b bs p t r os xs g c G w) : GotH lo w.heap.size os xs (.slice (some ⟨g, 0, none⟩) os.length c) G w := by
  obtain ⟨fs, rest, la, ha, h1, h2, h3, h4, h5, _⟩ := h.got
  exact ⟨g, c, fs, rest, la, ha, rfl, h1, h2, h.own, h5, h3, h4, h4⟩
theorem GotH.five {lo : Nat} {os : List Ob} {xs : List Int} {A G : Value} {w : World} (h : GotH lo w.heap.size os xs A G w) {R : Nat} (hR : R < lo) (a : Value) (p t r : Int) (v : Value) {l0 : Nat} (h0 : l0 ≤ lo) : GotH l0 (wq5 w R 0 a p t r v).heap.size os xs A G (wq5 w R 0 a p t r v) := by
  obtain ⟨g, c, fs, rest, la, ha, e1, e2, e3, e4, e5, e6, e7, e8⟩ := h
  rw [size_wq5]
  exact ⟨g, c, fs, rest, la, ha, e1, e2, e3.keepIn (fun k x hk hx => heap_wq5_other hx (by omega) _ _ _ _ _ _), e4.move (fun k x hk _ hx => heap_wq5_other hx (by omega) _ _ _ _ _ _) h0 (Nat.le_refl _), e5, by omega, e7, by rw [size_wq5]; exact e8⟩
def shadeB (os : List Ob) (p t r : Int) (xs : List Int) (i : Int) : Bool := heapOk os p t r xs && inB i 0 9
def shadeOs (os : List Ob) (p t r : Int) (xs : List Int) (i : Int) : List Ob := if shadeB os p t r xs i then shOs p os i.toNat else os
def shadeXs (os : List Ob) (p t r : Int) (xs : List Int) (i : Int) : List Int := if shadeB os p t r xs i then shXs p os xs i.toNat else xs
theorem EndH.turn {w : World} {b : Nat} {p t r : Int} {os : List Ob} {xs : List Int} {g c : Nat} {G : Value} {wz w' : World} (h : EndH w b p t r os xs g c G wz) {os' : List Ob} {xs' : List Int} {G' : Value} (hx : BoxH (w.heap.size + 1 + 1) b [] p t r os' xs' g c G' w') (hb : Below (w.heap.size + 1 + 1) wz w') : EndH w b p t r os' xs' g c G' w' := by
  obtain ⟨_, _, _, _, _, h1⟩ := h.par
  obtain ⟨_, _, _, _, _, h2⟩ := h.res
  exact ⟨h.base.trans (hb.mono (by omega)), hx, ⟨_, _, _, _, _, keepLow hb (by omega) h1⟩, ⟨_, _, _, _, _, keepLow hb (by omega) h2⟩⟩
set_option maxHeartbeats 8000000 in
theorem implGcShade_no (pa : Addr) (c : Nat) (p t r : Int) (G : Value) (os : List Ob) (xs : List Int) (i : Int) (w : World) (ha : IsArena w (.slice (some pa) os.length c) os) (hx : IsInts w G xs) (hl : os.length ≤ 1048576) (hs : Small8 os) (hn : os.length + xs.length ≤ 1048576) (h1 : heapOk os p t r xs = false) :
    Calls Tryz.prog 10 #[hpV (.slice (some pa) os.length c) p t r G, .int .i64 i] w fun e w' => AnsH p t r os xs w e w' := by
  have CC : Hid (∀ w', Below w.heap.size w w' → Calls Tryz.prog 28 #[hpV (.slice (some pa) os.length c) p t r G] w' fun e w'' => AnsH p t r os xs w' e w'') := fun w' hb => cloneHeap_any pa c p t r G os xs w' (ha.on hb) (hx.on hb) hl hs (by omega)
  have CO : Hid (∀ w', Below w.heap.size w w' → Calls Tryz.prog 29 #[hpV (.slice (some pa) os.length c) p t r G] w' fun e w'' => e = .returned (.bool (heapOk os p t r xs)) ∧ Below w'.heap.size w' w'') := fun w' hb => implHeapOk_any _ p t r _ os xs w' (ha.on hb) (hx.on hb) hl hs (by omega)
  have CS := fun w => isSlot_b i w
  rw [h1] at CO
  obtain ⟨ag, cg, rfl, _, _⟩ := id hx
  clear ha hx hl hs hn h1
  go_enter Tryz.func10, Tryz.ntmps10
  go_wp2_with fail
  refine (CC.out _ (by go_grown)).mono ?_
  rintro e w1 ⟨⟨A1, G1, rfl, hgot⟩, hb⟩
  obtain ⟨g1, c1, u1, d1, rfl, rfl⟩ := hgot.form
  have HE := hid_of (EndH.made hb hgot)
  clear hb hgot CC
  obtain ⟨i0, i1, i2, i3, i4⟩ := cells5 HE.out.2
  obtain ⟨W1, hW1⟩ : ∃ W1, W1 = w1.alloc (boxH (.slice (some ⟨g1, 0, none⟩) os.length c1) p t r (.slice u1 xs.length d1)) := ⟨_, rfl⟩
  go_wp2_with fail
  clear i0 i1 i2 i3 i4
  rw [← hW1] at HE ⊢
  obtain ⟨b, hbb⟩ : ∃ b, b = w1.heap.size := ⟨_, rfl⟩
  rw [← hbb] at HE ⊢
  clear hbb hW1
  refine (CO.out _ HE.out.1.base).mono ?_
  rintro e w2 ⟨rfl, hb⟩
  have HE2 := hid_of (HE.out.1.on hb)
  clear hb CO HE
  clear CS
  obtain ⟨k0, k1, k2, k3, k4⟩ := cells5 HE2.out.bx.box
  have kf := frozen_of HE2.out.bx.box
  obtain ⟨r0, r1, r2, r3, r4, hrs⟩ := HE2.out.res
  obtain ⟨m0, m1, m2, m3, m4⟩ := cells5 hrs
  have mf := frozen_of hrs
  clear hrs
  go_wp2
  have HA := hid_of (HE2.out.ans p t r)
  clear k0 k1 k2 k3 k4 kf m0 m1 m2 m3 m4 mf
  show bodyPost _ _ _ _ _ (wq5 _ (w.heap.size + 1) 0 (.slice (some ⟨g1, 0, none⟩) os.length c1) p t r (.slice u1 xs.length d1))
  refine bodyPost_ret (v := hpV (.slice (some ⟨g1, 0, none⟩) os.length c1) p t r (.slice u1 xs.length d1)) (by have e := HA.out.1; simp [results, go_sem, World.cell?, e]) rfl ⟨⟨_, _, rfl, HA.out.2.1⟩, HA.out.2.2⟩
set_option maxHeartbeats 8000000 in
theorem implGcShade_slot (pa : Addr) (c : Nat) (p t r : Int) (G : Value) (os : List Ob) (xs : List Int) (i : Int) (w : World) (ha : IsArena w (.slice (some pa) os.length c) os) (hx : IsInts w G xs) (hl : os.length ≤ 1048576) (hs : Small8 os) (hn : os.length + xs.length ≤ 1048576) (h1 : heapOk os p t r xs = true) (h2 : inB i 0 9 = false) :
    Calls Tryz.prog 10 #[hpV (.slice (some pa) os.length c) p t r G, .int .i64 i] w fun e w' => AnsH p t r os xs w e w' := by
  have CC : Hid (∀ w', Below w.heap.size w w' → Calls Tryz.prog 28 #[hpV (.slice (some pa) os.length c) p t r G] w' fun e w'' => AnsH p t r os xs w' e w'') := fun w' hb => cloneHeap_any pa c p t r G os xs w' (ha.on hb) (hx.on hb) hl hs (by omega)
  have CO : Hid (∀ w', Below w.heap.size w w' → Calls Tryz.prog 29 #[hpV (.slice (some pa) os.length c) p t r G] w' fun e w'' => e = .returned (.bool (heapOk os p t r xs)) ∧ Below w'.heap.size w' w'') := fun w' hb => implHeapOk_any _ p t r _ os xs w' (ha.on hb) (hx.on hb) hl hs (by omega)
  have CS := fun w => isSlot_b i w
  rw [h1] at CO
  rw [h2] at CS
  obtain ⟨ag, cg, rfl, _, _⟩ := id hx
  clear ha hx hl hs hn h1 h2
  go_enter Tryz.func10, Tryz.ntmps10
  go_wp2_with fail
  refine (CC.out _ (by go_grown)).mono ?_
  rintro e w1 ⟨⟨A1, G1, rfl, hgot⟩, hb⟩
  obtain ⟨g1, c1, u1, d1, rfl, rfl⟩ := hgot.form
  have HE := hid_of (EndH.made hb hgot)
  clear hb hgot CC
  obtain ⟨i0, i1, i2, i3, i4⟩ := cells5 HE.out.2
  obtain ⟨W1, hW1⟩ : ∃ W1, W1 = w1.alloc (boxH (.slice (some ⟨g1, 0, none⟩) os.length c1) p t r (.slice u1 xs.length d1)) := ⟨_, rfl⟩
  go_wp2_with fail
  clear i0 i1 i2 i3 i4
  rw [← hW1] at HE ⊢
  obtain ⟨b, hbb⟩ : ∃ b, b = w1.heap.size := ⟨_, rfl⟩
  rw [← hbb] at HE ⊢
  clear hbb hW1
  refine (CO.out _ HE.out.1.base).mono ?_
  rintro e w2 ⟨rfl, hb⟩
  have HE2 := hid_of (HE.out.1.on hb)
  clear hb CO HE
  go_wp2_with fail
  refine (CS _).mono ?_
  rintro e w3 ⟨rfl, rfl⟩
  clear CS
  obtain ⟨k0, k1, k2, k3, k4⟩ := cells5 HE2.out.bx.box
  have kf := frozen_of HE2.out.bx.box
  obtain ⟨r0, r1, r2, r3, r4, hrs⟩ := HE2.out.res
  obtain ⟨m0, m1, m2, m3, m4⟩ := cells5 hrs
  have mf := frozen_of hrs
  clear hrs
  go_wp2
  have HA := hid_of (HE2.out.ans p t r)
  clear k0 k1 k2 k3 k4 kf m0 m1 m2 m3 m4 mf
  show bodyPost _ _ _ _ _ (wq5 _ (w.heap.size + 1) 0 (.slice (some ⟨g1, 0, none⟩) os.length c1) p t r (.slice u1 xs.length d1))
  refine bodyPost_ret (v := hpV (.slice (some ⟨g1, 0, none⟩) os.length c1) p t r (.slice u1 xs.length d1)) (by have e := HA.out.1; simp [results, go_sem, World.cell?, e]) rfl ⟨⟨_, _, rfl, HA.out.2.1⟩, HA.out.2.2⟩
set_option maxHeartbeats 8000000 in
theorem implGcShade_yes (pa : Addr) (c : Nat) (p t r : Int) (G : Value) (os : List Ob) (xs : List Int) (i : Int) (w : World) (ha : IsArena w (.slice (some pa) os.length c) os) (hx : IsInts w G xs) (hl : os.length ≤ 1048576) (hs : Small8 os) (hn : os.length + xs.length ≤ 1048576) (h1 : heapOk os p t r xs = true) (h2 : inB i 0 9 = true) :
    Calls Tryz.prog 10 #[hpV (.slice (some pa) os.length c) p t r G, .int .i64 i] w fun e w' => AnsH p t r (shOs p os i.toNat) (shXs p os xs i.toNat) w e w' := by
  have CC : Hid (∀ w', Below w.heap.size w w' → Calls Tryz.prog 28 #[hpV (.slice (some pa) os.length c) p t r G] w' fun e w'' => AnsH p t r os xs w' e w'') := fun w' hb => cloneHeap_any pa c p t r G os xs w' (ha.on hb) (hx.on hb) hl hs (by omega)
  have CO : Hid (∀ w', Below w.heap.size w w' → Calls Tryz.prog 29 #[hpV (.slice (some pa) os.length c) p t r G] w' fun e w'' => e = .returned (.bool (heapOk os p t r xs)) ∧ Below w'.heap.size w' w'') := fun w' hb => implHeapOk_any _ p t r _ os xs w' (ha.on hb) (hx.on hb) hl hs (by omega)
  have CS := fun w => isSlot_b i w
  rw [h1] at CO
  rw [h2] at CS
  obtain ⟨k, rfl⟩ : ∃ k : Nat, i = (k : Int) := ⟨i.toNat, by have := inB_true h2; omega⟩
  have HK : Hid (k < os.length ∧ xs.length + 1 ≤ 1048576) := by have := inB_true h2; have := heapOk_ten h1; show _ ∧ _; omega
  rw [Int.toNat_natCast]
  obtain ⟨ag, cg, rfl, _, _⟩ := id hx
  clear ha hx hl hs hn h1 h2
  go_enter Tryz.func10, Tryz.ntmps10
  go_wp2_with fail
  refine (CC.out _ (by go_grown)).mono ?_
  rintro e w1 ⟨⟨A1, G1, rfl, hgot⟩, hb⟩
  obtain ⟨g1, c1, u1, d1, rfl, rfl⟩ := hgot.form
  have HE := hid_of (EndH.made hb hgot)
  clear hb hgot CC
  obtain ⟨i0, i1, i2, i3, i4⟩ := cells5 HE.out.2
  obtain ⟨W1, hW1⟩ : ∃ W1, W1 = w1.alloc (boxH (.slice (some ⟨g1, 0, none⟩) os.length c1) p t r (.slice u1 xs.length d1)) := ⟨_, rfl⟩
  go_wp2_with fail
  clear i0 i1 i2 i3 i4
  rw [← hW1] at HE ⊢
  obtain ⟨b, hbb⟩ : ∃ b, b = w1.heap.size := ⟨_, rfl⟩
  rw [← hbb] at HE ⊢
  clear hbb hW1
  refine (CO.out _ HE.out.1.base).mono ?_
  rintro e w2 ⟨rfl, hb⟩
  have HE2 := hid_of (HE.out.1.on hb)
  clear hb CO HE
  go_wp2_with fail
  refine (CS _).mono ?_
  rintro e w3 ⟨rfl, rfl⟩
  clear CS
  go_wp2_with fail
  have hlo : w.heap.size + 1 + 1 ≤ w2.heap.size := by have := HE2.out.bx.low; have := lt_of_block HE2.out.bx.box; omega
  refine (implShade_any (w.heap.size + 1 + 1) b p t r os xs g1 c1 (.slice u1 xs.length d1) k w2 HE2.out.bx HK.out.1 hlo HK.out.2).mono ?_
  rintro e w4 ⟨⟨v4, rfl⟩, ⟨G4, hx4⟩, hb4⟩
  clear hlo
  obtain ⟨u4, d4, rfl, _, _⟩ := id hx4.own
  have HE4 := hid_of (HE2.out.turn hx4 hb4)
  have HL : Hid ((shOs p os k).length = os.length) := shOs_length p os k
  clear hx4 hb4 HE2 HK
  obtain ⟨k0, k1, k2, k3, k4⟩ := cells5 HE4.out.bx.box
  rw [HL.out] at k0
  have kf := frozen_of HE4.out.bx.box
  obtain ⟨r0, r1, r2, r3, r4, hrs⟩ := HE4.out.res
  obtain ⟨m0, m1, m2, m3, m4⟩ := cells5 hrs
  have mf := frozen_of hrs
  clear hrs
  go_wp2
  have HA := hid_of (HE4.out.ans p t r)
  rw [HL.out] at HA
  clear k0 k1 k2 k3 k4 kf m0 m1 m2 m3 m4 mf
  show bodyPost _ _ _ _ _ (wq5 _ (w.heap.size + 1) 0 (.slice (some ⟨g1, 0, none⟩) os.length c1) p t r (.slice u4 (shXs p os xs k).length d4))
  refine bodyPost_ret (v := hpV (.slice (some ⟨g1, 0, none⟩) os.length c1) p t r (.slice u4 (shXs p os xs k).length d4)) (by have e := HA.out.1; simp [results, go_sem, World.cell?, e]) rfl ⟨⟨_, _, rfl, HA.out.2.1⟩, HA.out.2.2⟩
theorem implGcShade_any (pa : Addr) (c : Nat) (p t r : Int) (G : Value) (os : List Ob) (xs : List Int) (i : Int) (w : World) (ha : IsArena w (.slice (some pa) os.length c) os) (hx : IsInts w G xs) (hl : os.length ≤ 1048576) (hs : Small8 os) (hn : os.length + xs.length ≤ 1048576) :
    Calls Tryz.prog 10 #[hpV (.slice (some pa) os.length c) p t r G, .int .i64 i] w fun e w' => AnsH p t r (shadeOs os p t r xs i) (shadeXs os p t r xs i) w e w' := by
  unfold shadeOs shadeXs shadeB
  cases h1 : heapOk os p t r xs with
  | false => exact implGcShade_no pa c p t r G os xs i w ha hx hl hs hn h1
  | true =>
    cases h2 : inB i 0 9 with
    | false => exact implGcShade_slot pa c p t r G os xs i w ha hx hl hs hn h1 h2
    | true => exact implGcShade_yes pa c p t r G os xs i w ha hx hl hs hn h1 h2
set_option maxHeartbeats 8000000 in
theorem specGcShade_no (pa : Addr) (c : Nat) (p t r : Int) (pg : Addr) (cg : Nat) (os : List Ob) (xs : List Int) (i : Int) (w : World) (ha : IsArena w (.slice (some pa) os.length c) os) (hx : IsInts w (.slice (some pg) xs.length cg) xs) (hl : os.length ≤ 1048576) (hs : Small8 os) (hf : AllFit os) (hn : os.length + xs.length ≤ 1048576) (h1 : heapOk os p t r xs = false) :
    Calls Tryz.prog 8 #[hpV (.slice (some pa) os.length c) p t r (.slice (some pg) xs.length cg), .int .i64 i] w fun e w' => AnsH p t r os xs w e w' := by
  have CC : Hid (∀ w', Below w.heap.size w w' → Calls Tryz.prog 22 #[hpV (.slice (some pa) os.length c) p t r (.slice (some pg) xs.length cg)] w' fun e w'' => AnsH p t r os xs w' e w'') := fun w' hb => specCopyH_any pa c p t r pg cg os xs w' (ha.on hb) (hx.on hb) hl hs (by omega)
  have CO : Hid (∀ w', Below w.heap.size w w' → Calls Tryz.prog 23 #[hpV (.slice (some pa) os.length c) p t r (.slice (some pg) xs.length cg)] w' fun e w'' => e = .returned (.bool (heapOk os p t r xs)) ∧ Below w'.heap.size w' w'') := fun w' hb => specHeapOk_any _ p t r _ os xs w' (ha.on hb) (hx.on hb) hl hs hf (by omega)
  have CS := fun w => specSlot_b i w
  rw [h1] at CO
  clear ha hx hl hs hn hf h1
  go_enter Tryz.func8, Tryz.ntmps8
  go_wp2_with fail
  refine (CC.out _ (by go_grown)).mono ?_
  rintro e w1 ⟨⟨A1, G1, rfl, hgot⟩, hb⟩
  obtain ⟨g1, c1, u1, d1, rfl, rfl⟩ := hgot.form
  have HE := hid_of (EndH.made hb hgot)
  clear hb hgot CC
  obtain ⟨i0, i1, i2, i3, i4⟩ := cells5 HE.out.2
  obtain ⟨W1, hW1⟩ : ∃ W1, W1 = w1.alloc (boxH (.slice (some ⟨g1, 0, none⟩) os.length c1) p t r (.slice u1 xs.length d1)) := ⟨_, rfl⟩
  go_wp2_with fail
  clear i0 i1 i2 i3 i4
  rw [← hW1] at HE ⊢
  obtain ⟨b, hbb⟩ : ∃ b, b = w1.heap.size := ⟨_, rfl⟩
  rw [← hbb] at HE ⊢
  clear hbb hW1
  refine (CO.out _ HE.out.1.base).mono ?_
  rintro e w2 ⟨rfl, hb⟩
  have HE2 := hid_of (HE.out.1.on hb)
  clear hb CO HE
  clear CS
  obtain ⟨k0, k1, k2, k3, k4⟩ := cells5 HE2.out.bx.box
  have kf := frozen_of HE2.out.bx.box
  obtain ⟨r0, r1, r2, r3, r4, hrs⟩ := HE2.out.res
  obtain ⟨m0, m1, m2, m3, m4⟩ := cells5 hrs
  have mf := frozen_of hrs
  clear hrs
  go_wp2
  have HA := hid_of (HE2.out.ans p t r)
  clear k0 k1 k2 k3 k4 kf m0 m1 m2 m3 m4 mf
  show bodyPost _ _ _ _ _ (wq5 _ (w.heap.size + 1) 0 (.slice (some ⟨g1, 0, none⟩) os.length c1) p t r (.slice u1 xs.length d1))
  refine bodyPost_ret (v := hpV (.slice (some ⟨g1, 0, none⟩) os.length c1) p t r (.slice u1 xs.length d1)) (by have e := HA.out.1; simp [results, go_sem, World.cell?, e]) rfl ⟨⟨_, _, rfl, HA.out.2.1⟩, HA.out.2.2⟩
set_option maxHeartbeats 8000000 in
theorem specGcShade_slot (pa : Addr) (c : Nat) (p t r : Int) (pg : Addr) (cg : Nat) (os : List Ob) (xs : List Int) (i : Int) (w : World) (ha : IsArena w (.slice (some pa) os.length c) os) (hx : IsInts w (.slice (some pg) xs.length cg) xs) (hl : os.length ≤ 1048576) (hs : Small8 os) (hf : AllFit os) (hn : os.length + xs.length ≤ 1048576) (h1 : heapOk os p t r xs = true) (h2 : inB i 0 9 = false) :
    Calls Tryz.prog 8 #[hpV (.slice (some pa) os.length c) p t r (.slice (some pg) xs.length cg), .int .i64 i] w fun e w' => AnsH p t r os xs w e w' := by
  have CC : Hid (∀ w', Below w.heap.size w w' → Calls Tryz.prog 22 #[hpV (.slice (some pa) os.length c) p t r (.slice (some pg) xs.length cg)] w' fun e w'' => AnsH p t r os xs w' e w'') := fun w' hb => specCopyH_any pa c p t r pg cg os xs w' (ha.on hb) (hx.on hb) hl hs (by omega)
  have CO : Hid (∀ w', Below w.heap.size w w' → Calls Tryz.prog 23 #[hpV (.slice (some pa) os.length c) p t r (.slice (some pg) xs.length cg)] w' fun e w'' => e = .returned (.bool (heapOk os p t r xs)) ∧ Below w'.heap.size w' w'') := fun w' hb => specHeapOk_any _ p t r _ os xs w' (ha.on hb) (hx.on hb) hl hs hf (by omega)
  have CS := fun w => specSlot_b i w
  rw [h1] at CO
  rw [h2] at CS
  clear ha hx hl hs hn hf h1 h2
  go_enter Tryz.func8, Tryz.ntmps8
  go_wp2_with fail
  refine (CC.out _ (by go_grown)).mono ?_
  rintro e w1 ⟨⟨A1, G1, rfl, hgot⟩, hb⟩
  obtain ⟨g1, c1, u1, d1, rfl, rfl⟩ := hgot.form
  have HE := hid_of (EndH.made hb hgot)
  clear hb hgot CC
  obtain ⟨i0, i1, i2, i3, i4⟩ := cells5 HE.out.2
  obtain ⟨W1, hW1⟩ : ∃ W1, W1 = w1.alloc (boxH (.slice (some ⟨g1, 0, none⟩) os.length c1) p t r (.slice u1 xs.length d1)) := ⟨_, rfl⟩
  go_wp2_with fail
  clear i0 i1 i2 i3 i4
  rw [← hW1] at HE ⊢
  obtain ⟨b, hbb⟩ : ∃ b, b = w1.heap.size := ⟨_, rfl⟩
  rw [← hbb] at HE ⊢
  clear hbb hW1
  refine (CO.out _ HE.out.1.base).mono ?_
  rintro e w2 ⟨rfl, hb⟩
  have HE2 := hid_of (HE.out.1.on hb)
  clear hb CO HE
  go_wp2_with fail
  refine (CS _).mono ?_
  rintro e w3 ⟨rfl, rfl⟩
  clear CS
  obtain ⟨k0, k1, k2, k3, k4⟩ := cells5 HE2.out.bx.box
  have kf := frozen_of HE2.out.bx.box
  obtain ⟨r0, r1, r2, r3, r4, hrs⟩ := HE2.out.res
  obtain ⟨m0, m1, m2, m3, m4⟩ := cells5 hrs
  have mf := frozen_of hrs
  clear hrs
  go_wp2
  have HA := hid_of (HE2.out.ans p t r)
  clear k0 k1 k2 k3 k4 kf m0 m1 m2 m3 m4 mf
  show bodyPost _ _ _ _ _ (wq5 _ (w.heap.size + 1) 0 (.slice (some ⟨g1, 0, none⟩) os.length c1) p t r (.slice u1 xs.length d1))
  refine bodyPost_ret (v := hpV (.slice (some ⟨g1, 0, none⟩) os.length c1) p t r (.slice u1 xs.length d1)) (by have e := HA.out.1; simp [results, go_sem, World.cell?, e]) rfl ⟨⟨_, _, rfl, HA.out.2.1⟩, HA.out.2.2⟩
set_option maxHeartbeats 8000000 in
theorem specGcShade_yes (pa : Addr) (c : Nat) (p t r : Int) (pg : Addr) (cg : Nat) (os : List Ob) (xs : List Int) (i : Int) (w : World) (ha : IsArena w (.slice (some pa) os.length c) os) (hx : IsInts w (.slice (some pg) xs.length cg) xs) (hl : os.length ≤ 1048576) (hs : Small8 os) (hf : AllFit os) (hn : os.length + xs.length ≤ 1048576) (h1 : heapOk os p t r xs = true) (h2 : inB i 0 9 = true) :
    Calls Tryz.prog 8 #[hpV (.slice (some pa) os.length c) p t r (.slice (some pg) xs.length cg), .int .i64 i] w fun e w' => AnsH p t r (shOs p os i.toNat) (shXs p os xs i.toNat) w e w' := by
  have CC : Hid (∀ w', Below w.heap.size w w' → Calls Tryz.prog 22 #[hpV (.slice (some pa) os.length c) p t r (.slice (some pg) xs.length cg)] w' fun e w'' => AnsH p t r os xs w' e w'') := fun w' hb => specCopyH_any pa c p t r pg cg os xs w' (ha.on hb) (hx.on hb) hl hs (by omega)
  have CO : Hid (∀ w', Below w.heap.size w w' → Calls Tryz.prog 23 #[hpV (.slice (some pa) os.length c) p t r (.slice (some pg) xs.length cg)] w' fun e w'' => e = .returned (.bool (heapOk os p t r xs)) ∧ Below w'.heap.size w' w'') := fun w' hb => specHeapOk_any _ p t r _ os xs w' (ha.on hb) (hx.on hb) hl hs hf (by omega)
  have CS := fun w => specSlot_b i w
  rw [h1] at CO
  rw [h2] at CS
  obtain ⟨k, rfl⟩ : ∃ k : Nat, i = (k : Int) := ⟨i.toNat, by have := inB_true h2; omega⟩
  have HK : Hid (k < os.length ∧ xs.length + 1 ≤ 1048576) := by have := inB_true h2; have := heapOk_ten h1; show _ ∧ _; omega
  rw [Int.toNat_natCast]
  clear ha hx hl hs hn hf h1 h2
  go_enter Tryz.func8, Tryz.ntmps8
  go_wp2_with fail
  refine (CC.out _ (by go_grown)).mono ?_
  rintro e w1 ⟨⟨A1, G1, rfl, hgot⟩, hb⟩
  obtain ⟨g1, c1, u1, d1, rfl, rfl⟩ := hgot.form
  have HE := hid_of (EndH.made hb hgot)
  clear hb hgot CC
  obtain ⟨i0, i1, i2, i3, i4⟩ := cells5 HE.out.2
  obtain ⟨W1, hW1⟩ : ∃ W1, W1 = w1.alloc (boxH (.slice (some ⟨g1, 0, none⟩) os.length c1) p t r (.slice u1 xs.length d1)) := ⟨_, rfl⟩
  go_wp2_with fail
  clear i0 i1 i2 i3 i4
  rw [← hW1] at HE ⊢
  obtain ⟨b, hbb⟩ : ∃ b, b = w1.heap.size := ⟨_, rfl⟩
  rw [← hbb] at HE ⊢
  clear hbb hW1
  refine (CO.out _ HE.out.1.base).mono ?_
  rintro e w2 ⟨rfl, hb⟩
  have HE2 := hid_of (HE.out.1.on hb)
  clear hb CO HE
  go_wp2_with fail
  refine (CS _).mono ?_
  rintro e w3 ⟨rfl, rfl⟩
  clear CS
  obtain ⟨k0, k1, k2, k3, k4⟩ := cells5 HE2.out.bx.box
  go_wp2_with fail
  have hlo : w.heap.size + 1 + 1 ≤ w2.heap.size := by have := HE2.out.bx.low; have := lt_of_block HE2.out.bx.box; omega
  refine (specShadeV_any (w.heap.size + 1 + 1) p t r os xs g1 c1 (.slice u1 xs.length d1) k w2 HE2.out.bx.gotH HK.out.1 hlo HK.out.2).mono ?_
  rintro e w4 ⟨⟨G4, rfl, hg4⟩, hb4⟩
  obtain ⟨_, _, u4, d4, eA, rfl⟩ := hg4.form
  clear eA
  have HRS : Hid (∃ v0 v1 v2 v3 v4, w4.heap[w.heap.size + 1]? = some (.cells #[v0, v1, v2, v3, v4] 32 (0, 0))) := by
    obtain ⟨_, _, _, _, _, h2⟩ := HE2.out.res
    exact ⟨_, _, _, _, _, keepLow hb4 (by omega) h2⟩
  have HG4 := hid_of hg4
  have HB4 : Hid (Below w.heap.size w w4) := HE2.out.base.trans (hb4.mono (by omega))
  clear hlo hg4 hb4 HE2 HK k0 k1 k2 k3 k4
  obtain ⟨r0, r1, r2, r3, r4, hrs⟩ := HRS.out
  have HF := hid_of (heap_wq5_new hrs (.slice (some ⟨g1, 0, none⟩) os.length c1) p t r (.slice u4 (shXs p os xs k).length d4))
  obtain ⟨m0, m1, m2, m3, m4⟩ := cells5 hrs
  have mf := frozen_of hrs
  clear hrs
  go_wp2
  clear m0 m1 m2 m3 m4 mf
  show bodyPost _ _ _ _ _ (wq5 w4 (w.heap.size + 1) 0 (.slice (some ⟨g1, 0, none⟩) os.length c1) p t r (.slice u4 (shXs p os xs k).length d4))
  refine bodyPost_ret (v := hpV (.slice (some ⟨g1, 0, none⟩) os.length c1) p t r (.slice u4 (shXs p os xs k).length d4)) (by have e := HF.out; simp [results, go_sem, World.cell?, e]) rfl ⟨⟨_, _, rfl, HG4.out.five (by omega) _ _ _ _ _ (by omega)⟩, below_wq5 HB4.out (by omega) 0 _ _ _ _ _⟩
theorem specGcShade_any (pa : Addr) (c : Nat) (p t r : Int) (pg : Addr) (cg : Nat) (os : List Ob) (xs : List Int) (i : Int) (w : World) (ha : IsArena w (.slice (some pa) os.length c) os) (hx : IsInts w (.slice (some pg) xs.length cg) xs) (hl : os.length ≤ 1048576) (hs : Small8 os) (hf : AllFit os) (hn : os.length + xs.length ≤ 1048576) :
    Calls Tryz.prog 8 #[hpV (.slice (some pa) os.length c) p t r (.slice (some pg) xs.length cg), .int .i64 i] w fun e w' => AnsH p t r (shadeOs os p t r xs i) (shadeXs os p t r xs i) w e w' := by
  unfold shadeOs shadeXs shadeB
  cases h1 : heapOk os p t r xs with
  | false => exact specGcShade_no pa c p t r pg cg os xs i w ha hx hl hs hf hn h1
  | true =>
    cases h2 : inB i 0 9 with
    | false => exact specGcShade_slot pa c p t r pg cg os xs i w ha hx hl hs hf hn h1 h2
    | true => exact specGcShade_yes pa c p t r pg cg os xs i w ha hx hl hs hf hn h1 h2
end Go.Proofs.YtbdljoldblpffaaGreat
