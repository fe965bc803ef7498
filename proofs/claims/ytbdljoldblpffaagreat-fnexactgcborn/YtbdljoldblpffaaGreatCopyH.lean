/-
  Copies of a heap: the program's and the model's.
-/
import Derived.Test.YtbdljoldblpffaaGreatHeapM
import Derived.Test.YtbdljoldblpffaaGreatCopyA
import Derived.Test.YtbdljoldblpffaaGreatCopyB
import Derived.Test.YtbdljoldblpffaaGreatOkH
import Derived.ArgAppend
namespace Go.Proofs.YtbdljoldblpffaaGreat
open Go.RowKit
set_option linter.unusedVariables false
set_option maxRecDepth 100000

/-- append onto a list with no room. -/
theorem run_app0 (W : World) (a0 : Option Addr) (v : Value) (xs : List Int) (ty : TypeId) (hv : IsInts W v xs) (hn : xs.length ≤ 1048576) :
    ∃ v' w', (Builtin.append_ #[23, 23] ty #[.slice a0 0 0, v]).run Tryz.prog W = .ok v' w' ∧ OwnI W.heap.size w'.heap.size w' v' xs ∧ Below W.heap.size W w' := by
  obtain ⟨i0, hi0, hz0, hz1, hz2⟩ := info_parts info3
  obtain ⟨a, cap, rfl, hcap, hx⟩ := id hv
  by_cases hz : xs.length = 0
  · obtain rfl : xs = [] := List.length_eq_zero_iff.1 hz
    refine ⟨.slice a0 0 0, W, ?_, ⟨a0, 0, rfl, Nat.le_refl _, fun h => absurd rfl h⟩, Below.refl _ _⟩
    cases a0 <;> cases a <;> simp [Builtin.append_, run_underlying Tryz.underlying23, sizeOf, typeInfo, hi0, Builtin.lenOf, Builtin.firstCells, storeCells, loadCells, loadCellsFrom]
  · obtain ⟨p, rfl, _⟩ := hx 0 (by omega)
    have hcell : ∀ (j : Nat) u, (icells xs)[j]? = some u → W.cell? (p.add j) = some u := fun j u hj => ints_cells hv j u hj
    have hln : (icells xs).length = xs.length * 1 := by rw [icells_length]; omega
    have hone : ∃ v' w', (Builtin.append_ #[23, 23] ty #[.slice a0 0 0, .slice (some p) xs.length cap]).run Tryz.prog W = .ok v' w' ∧ w'.ownsRow W.heap.size 3 1 v' (0 + xs.length) ([] ++ icells xs) ∧ W.grownBy w' none := by
      cases a0 with
      | none =>
        obtain ⟨v', w', hr, h2, h3, h4, h5⟩ := run_append_own_at (P := Tryz.prog) W W.heap.size 23 ty 3 i0 _ 1 8 Tryz.underlying23 hi0 hz0 hz1 hz2 rfl (by decide) (.slice none 0 0) 0 [] (World.ownsRow_nil _ _ _ _) p xs.length cap (icells xs) hln hcell (icells_one _) (by simp only [maxLen]; omega) (by omega) (Nat.le_refl _)
        exact ⟨v', w', hr, h2, h3⟩
      | some q => exact run_append_arg_grows (P := Tryz.prog) W 23 ty 3 i0 _ 1 8 Tryz.underlying23 hi0 hz0 hz1 hz2 rfl (by decide) q 0 0 [] (by simp) (fun j u hj => by simp at hj) p xs.length cap (icells xs) hln hcell (by omega) (by simp only [maxLen]; omega) (by omega)
    obtain ⟨v', w', hr, h2, h3⟩ := hone
    have h2' : w'.ownsRow W.heap.size 3 1 v' xs.length (icells xs) := by simpa using h2
    exact ⟨v', w', hr, ownI_row h2', (Below.refl _ _).grown h3 (Nat.le_refl _) (fun k hk => by cases hk)⟩
theorem wpO_app0 {o : Oper} {a : Act} {K : Act → World → Prop} {Q : Exit → Act → World → Prop} {P : Value → World → Prop} (s x : Operand)
    (ho : o.op = .call { callee := .builtin .append, args := #[s, x], argTypes := #[23, 23] }) (W : World) (v u : Value) (hs : a.eval s = v) (hx : a.eval x = u)
    (H : ∃ v' w', (Builtin.append_ #[23, 23] o.type #[v, u]).run Tryz.prog W = .ok v' w' ∧ P v' w') (h : ∀ v' w', P v' w' → K (a.put o.dst v') w') : Oper.wp Tryz.prog o a W K Q := by
  obtain ⟨v', w', hr, h2⟩ := H
  unfold Oper.wp execOp
  simp only [ho, resolve, invoke, builtin, Sem.run_bind, Sem.run_pure, Result.andThen_ok, List.map_toArray, List.map_cons, List.map_nil, hs, hx, hr]
  exact h v' w' h2
/-- The place of a list that the call owns may be told wider. -/
theorem ownI_more {lo : Nat} {w w' : World} {v : Value} {xs : List Int} (h : OwnI lo w.heap.size w v xs) (hb : Below w.heap.size w w') : OwnI lo w'.heap.size w' v xs := (ownI_on h hb).move (fun _ _ _ _ x => x) (Nat.le_refl _) hb.size
def gFirst (P : Value → World → Prop) (vs : List Value) (j : Nat) (u : Value) (w : World) : Prop := (5 ≤ j → P u w) ∧ (j < 5 → u = vs.getD j undef)
set_option maxHeartbeats 4000000 in
theorem firstGrey_any (v : Value) (xs : List Int) (k : Nat) (w : World) (hx : IsInts w v xs) (hk : k ≤ xs.length) (hn : xs.length ≤ 1048576) :
    Calls Tryz.prog 54 #[v, .int .i64 (k : Int)] w fun e w' => (∃ a n c, e = .returned (.slice a n c) ∧ OwnI w.heap.size w'.heap.size w' (.slice a n c) (xs.take k)) ∧ Below w.heap.size w w' := by
  have hx0 := hx
  obtain ⟨a, cap, rfl, hcap, _⟩ := hx
  have htl : (xs.take k).length = k := by rw [List.length_take]; omega
  have HX : Hid (∀ wz, Below w.heap.size w wz → IsInts wz (.slice a k cap) (xs.take k)) := fun wz hb => isInts_take (hx0.on hb) hk
  have HN : Hid ((xs.take k).length ≤ 1048576) := by show _ ≤ _; rw [htl]; omega
  have ha : a = none → k = 0 := fun e => by
    obtain ⟨a', cap', hv, _, hx⟩ := hx0
    cases hv
    by_cases h : k = 0
    · exact h
    · obtain ⟨p, hp, _⟩ := hx 0 (by omega)
      rw [e] at hp; cases hp
  have hk2 : k ≤ cap := by omega
  generalize xs.take k = ys at HX HN
  generalize xs.length = n at hcap
  clear hx0 hk hn htl
  cases a with
  | none =>
    obtain rfl := ha rfl
    have HS : Hid (∀ wz, Below w.heap.size w wz → ∃ v' w', (Builtin.append_ #[23, 23] 23 #[.slice none 0 0, .slice none 0 cap]).run Tryz.prog wz = .ok v' w' ∧ OwnI w.heap.size w'.heap.size w' v' ys ∧ Below wz.heap.size wz w') := fun wz hb => by
      obtain ⟨v', w', h1, h2, h3⟩ := run_app0 wz none (.slice none 0 cap) ys 23 (HX.out wz hb) HN.out
      exact ⟨v', w', h1, h2.move (fun _ _ _ _ x => x) hb.size (Nat.le_refl _), h3⟩
    go_enter Tryz.func54, Tryz.ntmps54
    go_wp2_with fail
    refine wp_region_whole (by kernel_rfl) (by kernel_rfl) (by kernel_rfl) (by kernel_rfl) (Flat (fun wz => Below w.heap.size w wz) (gFirst (fun u wz => OwnI w.heap.size wz.heap.size wz u ys) [.slice none n cap, .slice none 0 0, .slice none n cap, .int .i64 ((0 : Nat) : Int), .slice none 0 cap])) (flat_start (below_draw w)) ?_ ?_
    · refine ⟨?_, ?_, ?_, ?_, ?_, ?_, ?_, trivial⟩
      · intro b0 us wz L hslot hoth hLi hR hcl hdo K hK
        have s0 : b0.tmps.getD 0 undef = .slice none n cap := hoth 0 (by rfl)
        clear hslot hoth hdo hcl hLi
        refine guard_none (by rfl) ?_
        go_simp
        exact hK _ _ (flat_mark (hR.1) (fun _ _ h => h) hR.2 ⟨fun h => absurd h (by decide), fun _ => rfl⟩)
      · intro b0 us wz L hslot hoth hLi hR hcl hdo K hK
        have s5 : b0.tmps.getD 5 undef = .slice none n cap := (hslot 0 5 (by rfl)).trans ((hR.2 0 (done_at hdo 0 (by rfl))).2 (by decide))
        clear hslot hoth hdo hcl hLi
        refine guard_none (by rfl) ?_
        go_simp
        exact hK _ _ (flat_mark (hR.1) (fun _ _ h => h) hR.2 ⟨fun h => absurd h (by decide), fun _ => rfl⟩)
      · intro b0 us wz L hslot hoth hLi hR hcl hdo K hK
        have s0 : b0.tmps.getD 0 undef = .slice none n cap := hoth 0 (by rfl)
        clear hslot hoth hdo hcl hLi
        refine guard_none (by rfl) ?_
        go_simp
        exact hK _ _ (flat_mark (hR.1) (fun _ _ h => h) hR.2 ⟨fun h => absurd h (by decide), fun _ => rfl⟩)
      · intro b0 us wz L hslot hoth hLi hR hcl hdo K hK
        have s1 : b0.tmps.getD 1 undef = .int .i64 ((0 : Nat) : Int) := hoth 1 (by rfl)
        clear hslot hoth hdo hcl hLi
        refine guard_none (by rfl) ?_
        go_simp
        exact hK _ _ (flat_mark (hR.1) (fun _ _ h => h) hR.2 ⟨fun h => absurd h (by decide), fun _ => rfl⟩)
      · intro b0 us wz L hslot hoth hLi hR hcl hdo K hK
        have s7 : b0.tmps.getD 7 undef = .slice none n cap := (hslot 2 7 (by rfl)).trans ((hR.2 2 (done_at hdo 2 (by rfl))).2 (by decide))
        have s8 : b0.tmps.getD 8 undef = .int .i64 ((0 : Nat) : Int) := (hslot 3 8 (by rfl)).trans ((hR.2 3 (done_at hdo 3 (by rfl))).2 (by decide))
        clear hslot hoth hdo hcl hLi
        refine guard_none (by rfl) ?_
        go_simp
        exact hK _ _ (flat_mark (hR.1) (fun _ _ h => h) hR.2 ⟨fun h => absurd h (by decide), fun _ => rfl⟩)
      · intro b0 us wz L hslot hoth hLi hR hcl hdo K hK
        have s6 : b0.tmps.getD 6 undef = .slice none 0 0 := (hslot 1 6 (by rfl)).trans ((hR.2 1 (done_at hdo 1 (by rfl))).2 (by decide))
        have s9 : b0.tmps.getD 9 undef = .slice none 0 cap := (hslot 4 9 (by rfl)).trans ((hR.2 4 (done_at hdo 4 (by rfl))).2 (by decide))
        clear hslot hoth hdo hcl hLi
        refine guard_none (by rfl) ?_
        refine wpO_app0 (.tmp 6) (.tmp 9) rfl wz _ _ s6 s9 (HS.out wz hR.1) ?_
        rintro v' w' ⟨ho, hb⟩
        exact hK _ _ (flat_mark (below_more hR.1 hb) (fun j u h => ⟨fun e => ownI_more (h.1 e) hb, h.2⟩) hR.2 ⟨fun _ => ho, fun h => absurd h (by decide)⟩)
      · intro b0 us wz L hslot hoth hLi hR hcl hdo K hK
        obtain ⟨x, hx, ho⟩ : ∃ x, us 5 = x ∧ OwnI w.heap.size wz.heap.size wz x ys := ⟨_, rfl, (hR.2 5 (done_at hdo 5 (by rfl))).1 (by decide)⟩
        have s10 : b0.tmps.getD 10 undef = x := (hslot 5 10 (by rfl)).trans hx
        clear hslot hoth hdo hcl hLi
        refine guard_none (by rfl) ?_
        go_simp
        exact hK _ _ (flat_mark (hR.1) (fun _ _ h => h) hR.2 ⟨fun _ => ho, fun h => absurd h (by decide)⟩)
    · intro us wn L hall hR a' ha'
      have g0 : us 0 = .slice none n cap := (hR.2 0 (hall 0 (by decide))).2 (by decide)
      have g1 : us 1 = .slice none 0 0 := (hR.2 1 (hall 1 (by decide))).2 (by decide)
      have g2 : us 2 = .slice none n cap := (hR.2 2 (hall 2 (by decide))).2 (by decide)
      have g3 : us 3 = .int .i64 ((0 : Nat) : Int) := (hR.2 3 (hall 3 (by decide))).2 (by decide)
      have g4 : us 4 = .slice none 0 cap := (hR.2 4 (hall 4 (by decide))).2 (by decide)
      obtain ⟨y, hy, ho⟩ : ∃ x, us 6 = x ∧ OwnI w.heap.size wn.heap.size wn x ys := ⟨_, rfl, (hR.2 6 (hall 6 (by decide))).1 (by decide)⟩
      obtain ⟨y5, hy5⟩ : ∃ x, us 5 = x := ⟨_, rfl⟩
      obtain ⟨ay, cy, ey, _, _⟩ := id ho
      have HO := hid_of (show OwnI w.heap.size wn.heap.size wn y ys ∧ Below w.heap.size w wn from ⟨ho, hR.1⟩)
      clear hR hall ho
      simp only [putAll, g0, g1, g2, g3, g4, hy, hy5] at ha'
      subst ha'
      go_frame
      go_wp2
      go_ret
      exact ⟨⟨ay, ys.length, cy, by rw [← ey]; rfl, by rw [← ey]; exact HO.out.1⟩, HO.out.2⟩
  | some p =>
    clear ha
    have HS : Hid (∀ wz, Below w.heap.size w wz → ∃ v' w', (Builtin.append_ #[23, 23] 23 #[.slice (some p) 0 0, .slice (some p) k cap]).run Tryz.prog wz = .ok v' w' ∧ OwnI w.heap.size w'.heap.size w' v' ys ∧ Below wz.heap.size wz w') := fun wz hb => by
      obtain ⟨v', w', h1, h2, h3⟩ := run_app0 wz (some p) (.slice (some p) k cap) ys 23 (HX.out wz hb) HN.out
      exact ⟨v', w', h1, h2.move (fun _ _ _ _ x => x) hb.size (Nat.le_refl _), h3⟩
    go_enter Tryz.func54, Tryz.ntmps54
    go_wp2_with fail
    refine wp_region_whole (by kernel_rfl) (by kernel_rfl) (by kernel_rfl) (by kernel_rfl) (Flat (fun wz => Below w.heap.size w wz) (gFirst (fun u wz => OwnI w.heap.size wz.heap.size wz u ys) [.slice (some p) n cap, .slice (some p) 0 0, .slice (some p) n cap, .int .i64 (k : Int), .slice (some p) k cap])) (flat_start (below_draw w)) ?_ ?_
    · refine ⟨?_, ?_, ?_, ?_, ?_, ?_, ?_, trivial⟩
      · intro b0 us wz L hslot hoth hLi hR hcl hdo K hK
        have s0 : b0.tmps.getD 0 undef = .slice (some p) n cap := hoth 0 (by rfl)
        clear hslot hoth hdo hcl hLi
        refine guard_none (by rfl) ?_
        go_simp
        exact hK _ _ (flat_mark (hR.1) (fun _ _ h => h) hR.2 ⟨fun h => absurd h (by decide), fun _ => rfl⟩)
      · intro b0 us wz L hslot hoth hLi hR hcl hdo K hK
        have s5 : b0.tmps.getD 5 undef = .slice (some p) n cap := (hslot 0 5 (by rfl)).trans ((hR.2 0 (done_at hdo 0 (by rfl))).2 (by decide))
        clear hslot hoth hdo hcl hLi
        refine guard_none (by rfl) ?_
        go_simp
        exact hK _ _ (flat_mark (hR.1) (fun _ _ h => h) hR.2 ⟨fun h => absurd h (by decide), fun _ => rfl⟩)
      · intro b0 us wz L hslot hoth hLi hR hcl hdo K hK
        have s0 : b0.tmps.getD 0 undef = .slice (some p) n cap := hoth 0 (by rfl)
        clear hslot hoth hdo hcl hLi
        refine guard_none (by rfl) ?_
        go_simp
        exact hK _ _ (flat_mark (hR.1) (fun _ _ h => h) hR.2 ⟨fun h => absurd h (by decide), fun _ => rfl⟩)
      · intro b0 us wz L hslot hoth hLi hR hcl hdo K hK
        have s1 : b0.tmps.getD 1 undef = .int .i64 (k : Int) := hoth 1 (by rfl)
        clear hslot hoth hdo hcl hLi
        refine guard_none (by rfl) ?_
        go_simp
        exact hK _ _ (flat_mark (hR.1) (fun _ _ h => h) hR.2 ⟨fun h => absurd h (by decide), fun _ => rfl⟩)
      · intro b0 us wz L hslot hoth hLi hR hcl hdo K hK
        have s7 : b0.tmps.getD 7 undef = .slice (some p) n cap := (hslot 2 7 (by rfl)).trans ((hR.2 2 (done_at hdo 2 (by rfl))).2 (by decide))
        have s8 : b0.tmps.getD 8 undef = .int .i64 (k : Int) := (hslot 3 8 (by rfl)).trans ((hR.2 3 (done_at hdo 3 (by rfl))).2 (by decide))
        clear hslot hoth hdo hcl hLi
        refine guard_none (by rfl) ?_
        go_simp
        exact hK _ _ (flat_mark (hR.1) (fun _ _ h => h) hR.2 ⟨fun h => absurd h (by decide), fun _ => rfl⟩)
      · intro b0 us wz L hslot hoth hLi hR hcl hdo K hK
        have s6 : b0.tmps.getD 6 undef = .slice (some p) 0 0 := (hslot 1 6 (by rfl)).trans ((hR.2 1 (done_at hdo 1 (by rfl))).2 (by decide))
        have s9 : b0.tmps.getD 9 undef = .slice (some p) k cap := (hslot 4 9 (by rfl)).trans ((hR.2 4 (done_at hdo 4 (by rfl))).2 (by decide))
        clear hslot hoth hdo hcl hLi
        refine guard_none (by rfl) ?_
        refine wpO_app0 (.tmp 6) (.tmp 9) rfl wz _ _ s6 s9 (HS.out wz hR.1) ?_
        rintro v' w' ⟨ho, hb⟩
        exact hK _ _ (flat_mark (below_more hR.1 hb) (fun j u h => ⟨fun e => ownI_more (h.1 e) hb, h.2⟩) hR.2 ⟨fun _ => ho, fun h => absurd h (by decide)⟩)
      · intro b0 us wz L hslot hoth hLi hR hcl hdo K hK
        obtain ⟨x, hx, ho⟩ : ∃ x, us 5 = x ∧ OwnI w.heap.size wz.heap.size wz x ys := ⟨_, rfl, (hR.2 5 (done_at hdo 5 (by rfl))).1 (by decide)⟩
        have s10 : b0.tmps.getD 10 undef = x := (hslot 5 10 (by rfl)).trans hx
        clear hslot hoth hdo hcl hLi
        refine guard_none (by rfl) ?_
        go_simp
        exact hK _ _ (flat_mark (hR.1) (fun _ _ h => h) hR.2 ⟨fun _ => ho, fun h => absurd h (by decide)⟩)
    · intro us wn L hall hR a' ha'
      have g0 : us 0 = .slice (some p) n cap := (hR.2 0 (hall 0 (by decide))).2 (by decide)
      have g1 : us 1 = .slice (some p) 0 0 := (hR.2 1 (hall 1 (by decide))).2 (by decide)
      have g2 : us 2 = .slice (some p) n cap := (hR.2 2 (hall 2 (by decide))).2 (by decide)
      have g3 : us 3 = .int .i64 (k : Int) := (hR.2 3 (hall 3 (by decide))).2 (by decide)
      have g4 : us 4 = .slice (some p) k cap := (hR.2 4 (hall 4 (by decide))).2 (by decide)
      obtain ⟨y, hy, ho⟩ : ∃ x, us 6 = x ∧ OwnI w.heap.size wn.heap.size wn x ys := ⟨_, rfl, (hR.2 6 (hall 6 (by decide))).1 (by decide)⟩
      obtain ⟨y5, hy5⟩ : ∃ x, us 5 = x := ⟨_, rfl⟩
      obtain ⟨ay, cy, ey, _, _⟩ := id ho
      have HO := hid_of (show OwnI w.heap.size wn.heap.size wn y ys ∧ Below w.heap.size w wn from ⟨ho, hR.1⟩)
      clear hR hall ho
      simp only [putAll, g0, g1, g2, g3, g4, hy, hy5] at ha'
      subst ha'
      go_frame
      go_wp2
      go_ret
      exact ⟨⟨ay, ys.length, cy, by rw [← ey]; rfl, by rw [← ey]; exact HO.out.1⟩, HO.out.2⟩
end Go.Proofs.YtbdljoldblpffaaGreat
