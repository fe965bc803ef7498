/-
  Copies of a heap: the program's and the model's. Copies of a heap, whole.
-/
import Derived.Test.YtbdljoldblpffaaGreatMark10
import Derived.Test.YtbdljoldblpffaaGreatCopyA8
import Derived.Test.YtbdljoldblpffaaGreatOkH10
import Derived.ArgAppend
import Derived.OwnWalk
namespace Go.Proofs.YtbdljoldblpffaaGreat
open Go.RowKit
set_option linter.unusedVariables false
set_option maxRecDepth 100000

/-- append onto a list with no room. -/
theorem run_app0 (W : World) (a0 : Option Addr) (v : Value) (xs : List Int) (ty : TypeId) (hv : IsInts W v xs) (hn : xs.length ≤ 1048576) :
    ∃ v' w', (Builtin.append_ #[23, 23] ty #[.slice a0 0 0, v]).run Tryz.prog W = .ok v' w' ∧ OwnI W.heap.size w'.heap.size w' v' xs ∧ Below W.heap.size W w' := by
  obtain ⟨i0, hi0, hz0, hz1, hz2⟩ := info_parts info3
  obtain ⟨a, cap, rfl, hcap, hx⟩ := id hv
  by_cases hz : xs.length = 0
  · obtain rfl : xs = [] := List.length_eq_zero_iff.1 hz
    refine ⟨.slice a0 0 0, W, ?_, ⟨a0, 0, rfl, Nat.le_refl _, fun h => absurd rfl h⟩, Below.refl _ _⟩
    cases a0 <;> cases a <;> simp [Builtin.append_, run_underlying Tryz.underlying23, sizeOf, typeInfo, hi0, Builtin.lenOf, Builtin.firstCells, storeCells, loadCells, loadCellsFrom]
  · obtain ⟨p, rfl, _⟩ := hx 0 (by omega)
    have hcell : ∀ (j : Nat) u, (icells xs)[j]? = some u → W.cell? (p.add j) = some u := fun j u hj => ints_cells hv j u hj
    have hln : (icells xs).length = xs.length * 1 := by rw [icells_length]; omega
    have hone : ∃ v' w', (Builtin.append_ #[23, 23] ty #[.slice a0 0 0, .slice (some p) xs.length cap]).run Tryz.prog W = .ok v' w' ∧ w'.ownsRow W.heap.size 3 1 v' (0 + xs.length) ([] ++ icells xs) ∧ W.grownBy w' none := by
      cases a0 with
      | none =>
        obtain ⟨v', w', hr, h2, h3, h4, h5⟩ := run_append_own_at (P := Tryz.prog) W W.heap.size 23 ty 3 i0 _ 1 8 Tryz.underlying23 hi0 hz0 hz1 hz2 rfl (by decide) (.slice none 0 0) 0 [] (World.ownsRow_nil _ _ _ _) p xs.length cap (icells xs) hln hcell (icells_one _) (by simp only [maxLen]; omega) (by omega) (Nat.le_refl _)
        exact ⟨v', w', hr, h2, h3⟩
      | some q => exact run_append_arg_grows (P := Tryz.prog) W 23 ty 3 i0 _ 1 8 Tryz.underlying23 hi0 hz0 hz1 hz2 rfl (by decide) q 0 0 [] (by simp) (fun j u hj => by simp at hj) p xs.length cap (icells xs) hln hcell (by omega) (by simp only [maxLen]; omega) (by omega)
    obtain ⟨v', w', hr, h2, h3⟩ := hone
    have h2' : w'.ownsRow W.heap.size 3 1 v' xs.length (icells xs) := by simpa using h2
    exact ⟨v', w', hr, ownI_row h2', (Below.refl _ _).grown h3 (Nat.le_refl _) (fun k hk => by cases hk)⟩
theorem wpO_app0 {o : Oper} {a : Act} {K : Act → World → Prop} {Q : Exit → Act → World → Prop} {P : Value → World → Prop} (s x : Operand)
    (ho : o.op = .call { callee := .builtin .append, args := #[s, x], argTypes := #[23, 23] }) (W : World) (v u : Value) (hs : a.eval s = v) (hx : a.eval x = u)
    (H : ∃ v' w', (Builtin.append_ #[23, 23] o.type #[v, u]).run Tryz.prog W = .ok v' w' ∧ P v' w') (h : ∀ v' w', P v' w' → K (a.put o.dst v') w') : Oper.wp Tryz.prog o a W K Q := by
  obtain ⟨v', w', hr, h2⟩ := H
  unfold Oper.wp execOp
  simp only [ho, resolve, invoke, builtin, Sem.run_bind, Sem.run_pure, Result.andThen_ok, List.map_toArray, List.map_cons, List.map_nil, hs, hx, hr]
  exact h v' w' h2
/-- The place of a list that the call owns may be told wider. -/
theorem ownI_more {lo : Nat} {w w' : World} {v : Value} {xs : List Int} (h : OwnI lo w.heap.size w v xs) (hb : Below w.heap.size w w') : OwnI lo w'.heap.size w' v xs := (ownI_on h hb).move (fun _ _ _ _ x => x) (Nat.le_refl _) hb.size
def gFirst (P : Value → World → Prop) (vs : List Value) (j : Nat) (u : Value) (w : World) : Prop := (5 ≤ j → P u w) ∧ (j < 5 → u = vs.getD j undef)
set_option maxHeartbeats 4000000 in
theorem firstGrey_any (v : Value) (xs : List Int) (k : Nat) (w : World) (hx : IsInts w v xs) (hk : k ≤ xs.length) (hn : xs.length ≤ 1048576) :
    Calls Tryz.prog 54 #[v, .int .i64 (k : Int)] w fun e w' => (∃ a n c, e = .returned (.slice a n c) ∧ OwnI w.heap.size w'.heap.size w' (.slice a n c) (xs.take k)) ∧ Below w.heap.size w w' := by
  have hx0 := hx
  obtain ⟨a, cap, rfl, hcap, _⟩ := hx
  have htl : (xs.take k).length = k := by rw [List.length_take]; omega
  have HX : Hid (∀ wz, Below w.heap.size w wz → IsInts wz (.slice a k cap) (xs.take k)) := fun wz hb => isInts_take (hx0.on hb) hk
  have HN : Hid ((xs.take k).length ≤ 1048576) := by show _ ≤ _; rw [htl]; omega
  have ha : a = none → k = 0 := fun e => by
    obtain ⟨a', cap', hv, _, hx⟩ := hx0
    cases hv
    by_cases h : k = 0
    · exact h
    · obtain ⟨p, hp, _⟩ := hx 0 (by omega)
      rw [e] at hp; cases hp
  have hk2 : k ≤ cap := by omega
  generalize xs.take k = ys at HX HN
  generalize xs.length = n at hcap
  clear hx0 hk hn htl
  cases a with
  | none =>
    obtain rfl := ha rfl
    have HS : Hid (∀ wz, Below w.heap.size w wz → ∃ v' w', (Builtin.append_ #[23, 23] 23 #[.slice none 0 0, .slice none 0 cap]).run Tryz.prog wz = .ok v' w' ∧ OwnI w.heap.size w'.heap.size w' v' ys ∧ Below wz.heap.size wz w') := fun wz hb => by
      obtain ⟨v', w', h1, h2, h3⟩ := run_app0 wz none (.slice none 0 cap) ys 23 (HX.out wz hb) HN.out
      exact ⟨v', w', h1, h2.move (fun _ _ _ _ x => x) hb.size (Nat.le_refl _), h3⟩
    go_enter Tryz.func54, Tryz.ntmps54
    go_wp2_with fail
    refine wp_region_whole (by kernel_rfl) (by kernel_rfl) (by kernel_rfl) (by kernel_rfl) (Flat (fun wz => Below w.heap.size w wz) (gFirst (fun u wz => OwnI w.heap.size wz.heap.size wz u ys) [.slice none n cap, .slice none 0 0, .slice none n cap, .int .i64 ((0 : Nat) : Int), .slice none 0 cap])) (flat_start (below_draw w)) ?_ ?_
    · refine ⟨?_, ?_, ?_, ?_, ?_, ?_, ?_, trivial⟩
      · intro b0 us wz L hslot hoth hLi hR hcl hdo K hK
        have s0 : b0.tmps.getD 0 undef = .slice none n cap := hoth 0 (by rfl)
        clear hslot hoth hdo hcl hLi
        refine guard_none (by rfl) ?_
        go_simp
        exact hK _ _ (flat_mark (hR.1) (fun _ _ h => h) hR.2 ⟨fun h => absurd h (by decide), fun _ => rfl⟩)
      · intro b0 us wz L hslot hoth hLi hR hcl hdo K hK
        have s5 : b0.tmps.getD 5 undef = .slice none n cap := (hslot 0 5 (by rfl)).trans ((hR.2 0 (done_at hdo 0 (by rfl))).2 (by decide))
        clear hslot hoth hdo hcl hLi
        refine guard_none (by rfl) ?_
        go_simp
        exact hK _ _ (flat_mark (hR.1) (fun _ _ h => h) hR.2 ⟨fun h => absurd h (by decide), fun _ => rfl⟩)
      · intro b0 us wz L hslot hoth hLi hR hcl hdo K hK
        have s0 : b0.tmps.getD 0 undef = .slice none n cap := hoth 0 (by rfl)
        clear hslot hoth hdo hcl hLi
        refine guard_none (by rfl) ?_
        go_simp
        exact hK _ _ (flat_mark (hR.1) (fun _ _ h => h) hR.2 ⟨fun h => absurd h (by decide), fun _ => rfl⟩)
      · intro b0 us wz L hslot hoth hLi hR hcl hdo K hK
        have s1 : b0.tmps.getD 1 undef = .int .i64 ((0 : Nat) : Int) := hoth 1 (by rfl)
        clear hslot hoth hdo hcl hLi
        refine guard_none (by rfl) ?_
        go_simp
        exact hK _ _ (flat_mark (hR.1) (fun _ _ h => h) hR.2 ⟨fun h => absurd h (by decide), fun _ => rfl⟩)
      · intro b0 us wz L hslot hoth hLi hR hcl hdo K hK
        have s7 : b0.tmps.getD 7 undef = .slice none n cap := (hslot 2 7 (by rfl)).trans ((hR.2 2 (done_at hdo 2 (by rfl))).2 (by decide))
        have s8 : b0.tmps.getD 8 undef = .int .i64 ((0 : Nat) : Int) := (hslot 3 8 (by rfl)).trans ((hR.2 3 (done_at hdo 3 (by rfl))).2 (by decide))
        clear hslot hoth hdo hcl hLi
        refine guard_none (by rfl) ?_
        go_simp
        exact hK _ _ (flat_mark (hR.1) (fun _ _ h => h) hR.2 ⟨fun h => absurd h (by decide), fun _ => rfl⟩)
      · intro b0 us wz L hslot hoth hLi hR hcl hdo K hK
        have s6 : b0.tmps.getD 6 undef = .slice none 0 0 := (hslot 1 6 (by rfl)).trans ((hR.2 1 (done_at hdo 1 (by rfl))).2 (by decide))
        have s9 : b0.tmps.getD 9 undef = .slice none 0 cap := (hslot 4 9 (by rfl)).trans ((hR.2 4 (done_at hdo 4 (by rfl))).2 (by decide))
        clear hslot hoth hdo hcl hLi
        refine guard_none (by rfl) ?_
        refine wpO_app0 (.tmp 6) (.tmp 9) rfl wz _ _ s6 s9 (HS.out wz hR.1) ?_
        rintro v' w' ⟨ho, hb⟩
        exact hK _ _ (flat_mark (below_more hR.1 hb) (fun j u h => ⟨fun e => ownI_more (h.1 e) hb, h.2⟩) hR.2 ⟨fun _ => ho, fun h => absurd h (by decide)⟩)
      · intro b0 us wz L hslot hoth hLi hR hcl hdo K hK
        obtain ⟨x, hx, ho⟩ : ∃ x, us 5 = x ∧ OwnI w.heap.size wz.heap.size wz x ys := ⟨_, rfl, (hR.2 5 (done_at hdo 5 (by rfl))).1 (by decide)⟩
        have s10 : b0.tmps.getD 10 undef = x := (hslot 5 10 (by rfl)).trans hx
        clear hslot hoth hdo hcl hLi
        refine guard_none (by rfl) ?_
        go_simp
        exact hK _ _ (flat_mark (hR.1) (fun _ _ h => h) hR.2 ⟨fun _ => ho, fun h => absurd h (by decide)⟩)
    · intro us wn L hall hR a' ha'
      have g0 : us 0 = .slice none n cap := (hR.2 0 (hall 0 (by decide))).2 (by decide)
      have g1 : us 1 = .slice none 0 0 := (hR.2 1 (hall 1 (by decide))).2 (by decide)
      have g2 : us 2 = .slice none n cap := (hR.2 2 (hall 2 (by decide))).2 (by decide)
      have g3 : us 3 = .int .i64 ((0 : Nat) : Int) := (hR.2 3 (hall 3 (by decide))).2 (by decide)
      have g4 : us 4 = .slice none 0 cap := (hR.2 4 (hall 4 (by decide))).2 (by decide)
      obtain ⟨y, hy, ho⟩ : ∃ x, us 6 = x ∧ OwnI w.heap.size wn.heap.size wn x ys := ⟨_, rfl, (hR.2 6 (hall 6 (by decide))).1 (by decide)⟩
      obtain ⟨y5, hy5⟩ : ∃ x, us 5 = x := ⟨_, rfl⟩
      obtain ⟨ay, cy, ey, _, _⟩ := id ho
      have HO := hid_of (show OwnI w.heap.size wn.heap.size wn y ys ∧ Below w.heap.size w wn from ⟨ho, hR.1⟩)
      clear hR hall ho
      simp only [putAll, g0, g1, g2, g3, g4, hy, hy5] at ha'
      subst ha'
      go_frame
      go_wp2
      go_ret
      exact ⟨⟨ay, ys.length, cy, by rw [← ey]; rfl, by rw [← ey]; exact HO.out.1⟩, HO.out.2⟩
  | some p =>
    clear ha
    have HS : Hid (∀ wz, Below w.heap.size w wz → ∃ v' w', (Builtin.append_ #[23, 23] 23 #[.slice (some p) 0 0, .slice (some p) k cap]).run Tryz.prog wz = .ok v' w' ∧ OwnI w.heap.size w'.heap.size w' v' ys ∧ Below wz.heap.size wz w') := fun wz hb => by
      obtain ⟨v', w', h1, h2, h3⟩ := run_app0 wz (some p) (.slice (some p) k cap) ys 23 (HX.out wz hb) HN.out
      exact ⟨v', w', h1, h2.move (fun _ _ _ _ x => x) hb.size (Nat.le_refl _), h3⟩
    go_enter Tryz.func54, Tryz.ntmps54
    go_wp2_with fail
    refine wp_region_whole (by kernel_rfl) (by kernel_rfl) (by kernel_rfl) (by kernel_rfl) (Flat (fun wz => Below w.heap.size w wz) (gFirst (fun u wz => OwnI w.heap.size wz.heap.size wz u ys) [.slice (some p) n cap, .slice (some p) 0 0, .slice (some p) n cap, .int .i64 (k : Int), .slice (some p) k cap])) (flat_start (below_draw w)) ?_ ?_
    · refine ⟨?_, ?_, ?_, ?_, ?_, ?_, ?_, trivial⟩
      · intro b0 us wz L hslot hoth hLi hR hcl hdo K hK
        have s0 : b0.tmps.getD 0 undef = .slice (some p) n cap := hoth 0 (by rfl)
        clear hslot hoth hdo hcl hLi
        refine guard_none (by rfl) ?_
        go_simp
        exact hK _ _ (flat_mark (hR.1) (fun _ _ h => h) hR.2 ⟨fun h => absurd h (by decide), fun _ => rfl⟩)
      · intro b0 us wz L hslot hoth hLi hR hcl hdo K hK
        have s5 : b0.tmps.getD 5 undef = .slice (some p) n cap := (hslot 0 5 (by rfl)).trans ((hR.2 0 (done_at hdo 0 (by rfl))).2 (by decide))
        clear hslot hoth hdo hcl hLi
        refine guard_none (by rfl) ?_
        go_simp
        exact hK _ _ (flat_mark (hR.1) (fun _ _ h => h) hR.2 ⟨fun h => absurd h (by decide), fun _ => rfl⟩)
      · intro b0 us wz L hslot hoth hLi hR hcl hdo K hK
        have s0 : b0.tmps.getD 0 undef = .slice (some p) n cap := hoth 0 (by rfl)
        clear hslot hoth hdo hcl hLi
        refine guard_none (by rfl) ?_
        go_simp
        exact hK _ _ (flat_mark (hR.1) (fun _ _ h => h) hR.2 ⟨fun h => absurd h (by decide), fun _ => rfl⟩)
      · intro b0 us wz L hslot hoth hLi hR hcl hdo K hK
        have s1 : b0.tmps.getD 1 undef = .int .i64 (k : Int) := hoth 1 (by rfl)
        clear hslot hoth hdo hcl hLi
        refine guard_none (by rfl) ?_
        go_simp
        exact hK _ _ (flat_mark (hR.1) (fun _ _ h => h) hR.2 ⟨fun h => absurd h (by decide), fun _ => rfl⟩)
      · intro b0 us wz L hslot hoth hLi hR hcl hdo K hK
        have s7 : b0.tmps.getD 7 undef = .slice (some p) n cap := (hslot 2 7 (by rfl)).trans ((hR.2 2 (done_at hdo 2 (by rfl))).2 (by decide))
        have s8 : b0.tmps.getD 8 undef = .int .i64 (k : Int) := (hslot 3 8 (by rfl)).trans ((hR.2 3 (done_at hdo 3 (by rfl))).2 (by decide))
        clear hslot hoth hdo hcl hLi
        refine guard_none (by rfl) ?_
        go_simp
        exact hK _ _ (flat_mark (hR.1) (fun _ _ h => h) hR.2 ⟨fun h => absurd h (by decide), fun _ => rfl⟩)
      · intro b0 us wz L hslot hoth hLi hR hcl hdo K hK
        have s6 : b0.tmps.getD 6 undef = .slice (some p) 0 0 := (hslot 1 6 (by rfl)).trans ((hR.2 1 (done_at hdo 1 (by rfl))).2 (by decide))
        have s9 : b0.tmps.getD 9 undef = .slice (some p) k cap := (hslot 4 9 (by rfl)).trans ((hR.2 4 (done_at hdo 4 (by rfl))).2 (by decide))
        clear hslot hoth hdo hcl hLi
        refine guard_none (by rfl) ?_
        refine wpO_app0 (.tmp 6) (.tmp 9) rfl wz _ _ s6 s9 (HS.out wz hR.1) ?_
        rintro v' w' ⟨ho, hb⟩
        exact hK _ _ (flat_mark (below_more hR.1 hb) (fun j u h => ⟨fun e => ownI_more (h.1 e) hb, h.2⟩) hR.2 ⟨fun _ => ho, fun h => absurd h (by decide)⟩)
      · intro b0 us wz L hslot hoth hLi hR hcl hdo K hK
        obtain ⟨x, hx, ho⟩ : ∃ x, us 5 = x ∧ OwnI w.heap.size wz.heap.size wz x ys := ⟨_, rfl, (hR.2 5 (done_at hdo 5 (by rfl))).1 (by decide)⟩
        have s10 : b0.tmps.getD 10 undef = x := (hslot 5 10 (by rfl)).trans hx
        clear hslot hoth hdo hcl hLi
        refine guard_none (by rfl) ?_
        go_simp
        exact hK _ _ (flat_mark (hR.1) (fun _ _ h => h) hR.2 ⟨fun _ => ho, fun h => absurd h (by decide)⟩)
    · intro us wn L hall hR a' ha'
      have g0 : us 0 = .slice (some p) n cap := (hR.2 0 (hall 0 (by decide))).2 (by decide)
      have g1 : us 1 = .slice (some p) 0 0 := (hR.2 1 (hall 1 (by decide))).2 (by decide)
      have g2 : us 2 = .slice (some p) n cap := (hR.2 2 (hall 2 (by decide))).2 (by decide)
      have g3 : us 3 = .int .i64 (k : Int) := (hR.2 3 (hall 3 (by decide))).2 (by decide)
      have g4 : us 4 = .slice (some p) k cap := (hR.2 4 (hall 4 (by decide))).2 (by decide)
      obtain ⟨y, hy, ho⟩ : ∃ x, us 6 = x ∧ OwnI w.heap.size wn.heap.size wn x ys := ⟨_, rfl, (hR.2 6 (hall 6 (by decide))).1 (by decide)⟩
      obtain ⟨y5, hy5⟩ : ∃ x, us 5 = x := ⟨_, rfl⟩
      obtain ⟨ay, cy, ey, _, _⟩ := id ho
      have HO := hid_of (show OwnI w.heap.size wn.heap.size wn y ys ∧ Below w.heap.size w wn from ⟨ho, hR.1⟩)
      clear hR hall ho
      simp only [putAll, g0, g1, g2, g3, g4, hy, hy5] at ha'
      subst ha'
      go_frame
      go_wp2
      go_ret
      exact ⟨⟨ay, ys.length, cy, by rw [← ey]; rfl, by rw [← ey]; exact HO.out.1⟩, HO.out.2⟩
end Go.Proofs.YtbdljoldblpffaaGreat
namespace Go.Proofs.YtbdljoldblpffaaGreat
open Go.RowKit
set_option linter.unusedVariables false
set_option maxRecDepth 100000

set_option maxHeartbeats 4000000 in
theorem cloneHeap_any (pa : Addr) (c : Nat) (p t r : Int) (G : Value) (os : List Ob) (xs : List Int) (w : World) (ha : IsArena w (.slice (some pa) os.length c) os) (hx : IsInts w G xs) (hl : os.length ≤ 1048576) (hs : Small8 os) (hn : xs.length ≤ 1048576) :
    Calls Tryz.prog 28 #[hpV (.slice (some pa) os.length c) p t r G] w fun e w' => AnsH p t r os xs w e w' := by
  have CA : Hid (∀ w', Below w.heap.size w w' → Calls Tryz.prog 53 #[.slice (some pa) os.length c] w' fun e w'' => ArenaOwn os w' e w'') := fun w' hb => implCopyA_any pa os.length c os w' (ha.on hb) rfl hl hs
  have CF : Hid (∀ w', Below w.heap.size w w' → Calls Tryz.prog 54 #[G, .int .i64 ((xs.length : Nat) : Int)] w' fun e w'' => (∃ a n c, e = .returned (.slice a n c) ∧ OwnI w'.heap.size w''.heap.size w'' (.slice a n c) xs) ∧ Below w'.heap.size w' w'') := fun w' hb => by
    have e := firstGrey_any G xs xs.length w' (hx.on hb) (Nat.le_refl _) hn
    rw [List.take_length] at e
    exact e
  obtain ⟨ag, cg, rfl, _, _⟩ := id hx
  clear ha hx hl hs hn
  go_enter Tryz.func28, Tryz.ntmps28
  go_wp2_with fail
  refine (CA.out _ (by go_grown)).mono ?_
  rintro e w1 ⟨g, c', fs, rest, rfl, he, ho, hb1⟩
  have HV1 := hid_of (keep (show _ = some (boxH (.slice (some pa) os.length c) p t r (.slice ag xs.length cg)) from (heap_alloc_old _ _ (by simp)).trans (heap_alloc_new w _)) hb1)
  have HZ1 := hid_of (keep (show _ = some (boxH (.slice none 0 0) 0 0 0 (.slice none 0 0)) from heap_alloc_at0 w _ _) hb1)
  have HO1 : Hid (OwnA g c' fs rest (w.heap.size + 1 + 1) w1.heap.size w1) := by simp at ho; exact ho
  have hz1 : w.heap.size + 1 + 1 ≤ w1.heap.size := by have := hb1.size; simp at this; omega
  have y10 : w.heap.size < w1.heap.size := by omega
  have y11 : w.heap.size + 1 < w1.heap.size := by omega
  have HB1 : Hid (Below w.heap.size w w1) := below_more (by go_grown) hb1
  have HE := hid_of he
  obtain ⟨k0, k1, k2, k3, k4⟩ := cells5 HV1.out
  have kf := frozen_of HV1.out
  clear hb1 CA ho he
  go_wp2_with fail
  refine (CF.out _ (HB1.out.setCell (by show _ ≤ _; first | omega | (simp; done) | (simp; omega)) _)).mono ?_
  rintro e w2 ⟨⟨a2, n2, c2, rfl, ho2⟩, hb2⟩
  have hs1 : (w1.setCell ⟨w.heap.size, 0, none⟩ (.slice (some ⟨g, 0, none⟩) os.length c')).heap.size = w1.heap.size := by simp
  have hz2 : w1.heap.size ≤ w2.heap.size := by have := hb2.size; rw [hs1] at this; exact this
  have y20 : w.heap.size < w2.heap.size := by omega
  have y21 : w.heap.size + 1 < w2.heap.size := by omega
  have HB2 : Hid (Below w.heap.size w w2) := below_more (HB1.out.setCell (by show _ ≤ _; first | omega | (simp; done) | (simp; omega)) _) hb2
  have HZ2 := hid_of (keep (setCell_keep HZ1.out (by omega)) hb2)
  have HI2 : Hid (OwnI w1.heap.size w2.heap.size w2 (.slice a2 n2 c2) xs) := by rw [hs1] at ho2; exact ho2
  have HO2 : Hid (OwnA g c' fs rest (w.heap.size + 1 + 1) w1.heap.size w2) := (HO1.out.setOther (by omega)).on hb2
  have HV2 := hid_of (keep (show _ = some (boxH (.slice (some ⟨g, 0, none⟩) os.length c') p t r (.slice ag xs.length cg)) from by have e := heap_setCell_same w1 w.heap.size 0 _ _ (.slice (some ⟨g, 0, none⟩) os.length c') HV1.out; simpa using e) hb2)
  clear hb2 HB1 HZ1 HV1 HO1 CF ho2 k0 k1 k2 k3 k4 kf
  obtain ⟨k0, k1, k2, k3, k4⟩ := cells5 HV2.out
  have kf := frozen_of HV2.out
  obtain ⟨m0, m1, m2, m3, m4⟩ := cells5 HZ2.out
  have mf := frozen_of HZ2.out
  go_wp2
  clear k0 k1 k2 k3 k4 kf m0 m1 m2 m3 m4 mf
  show bodyPost _ _ _ _ _ (wq5 (w2.setCell ⟨w.heap.size, 4, none⟩ (.slice a2 n2 c2)) (w.heap.size + 1) 0 (.slice (some ⟨g, 0, none⟩) os.length c') p t r (.slice a2 n2 c2))
  have hfin := heap_wq5_new (setCell_keep (g := w.heap.size) (o := 4) (v := .slice a2 n2 c2) HZ2.out (by omega)) (.slice (some ⟨g, 0, none⟩) os.length c') p t r (.slice a2 n2 c2)
  have hs5 : ∀ k x, w.heap.size + 1 + 1 ≤ k → w2.heap[k]? = some x → (wq5 (w2.setCell ⟨w.heap.size, 4, none⟩ (.slice a2 n2 c2)) (w.heap.size + 1) 0 (.slice (some ⟨g, 0, none⟩) os.length c') p t r (.slice a2 n2 c2)).heap[k]? = some x := fun k x hk h => heap_wq5_other (setCell_keep h (by omega)) (by omega) _ _ _ _ _ _
  have hB5 := below_wq5 (HB2.out.setCell (p := ⟨w.heap.size, 4, none⟩) (Nat.le_refl _) (.slice a2 n2 c2)) (g := w.heap.size + 1) (by omega) 0 (.slice (some ⟨g, 0, none⟩) os.length c') p t r (.slice a2 n2 c2)
  have hz5 := size_wq5 (w2.setCell ⟨w.heap.size, 4, none⟩ (.slice a2 n2 c2)) (w.heap.size + 1) 0 (.slice (some ⟨g, 0, none⟩) os.length c') p t r (.slice a2 n2 c2)
  rw [show (w2.setCell ⟨w.heap.size, 4, none⟩ (.slice a2 n2 c2)).heap.size = w2.heap.size by simp] at hz5
  generalize wq5 (w2.setCell ⟨w.heap.size, 4, none⟩ (.slice a2 n2 c2)) (w.heap.size + 1) 0 (.slice (some ⟨g, 0, none⟩) os.length c') p t r (.slice a2 n2 c2) = W at hfin hs5 hB5 hz5 ⊢
  refine bodyPost_ret (v := hpV (.slice (some ⟨g, 0, none⟩) os.length c') p t r (.slice a2 n2 c2)) (by simp [results, go_sem, World.cell?, hfin]) rfl ⟨⟨_, _, rfl, g, c', fs, rest, w.heap.size + 1 + 1, w1.heap.size, rfl, HE.out, ?_, ?_, ?_, by omega, by omega, by omega⟩, hB5⟩
  · exact HO2.out.keepIn2 (fun k x h1 _ h => hs5 k x h1 h)
  · exact HI2.out.move (fun k x h1 _ h => hs5 k x (by omega) h) (by omega) (by omega)
  · exact fun b hb => .inr (HI2.out.blk hb).1
/-- An arena of the call's own, wherever it is told. -/
def OwnAt (la : Nat) (os : List Ob) (u : Value) (w : World) : Prop := ∃ g c fs rest, u = .slice (some ⟨g, 0, none⟩) os.length c ∧ arOf fs = os ∧ OwnA g c fs rest la w.heap.size w
theorem OwnAt.on {la : Nat} {os : List Ob} {u : Value} {w w' : World} (h : OwnAt la os u w) (hb : Below w.heap.size w w') : OwnAt la os u w' := by
  obtain ⟨g, c, fs, rest, h1, h2, h3⟩ := h
  exact ⟨g, c, fs, rest, h1, h2, (h3.on hb).wide (Nat.le_refl _) hb.size⟩
theorem OwnAt.five {la : Nat} {os : List Ob} {u : Value} {w : World} (h : OwnAt la os u w) {R : Nat} (hR : R < la) (a : Value) (p t r : Int) (v : Value) : OwnAt la os u (wq5 w R 0 a p t r v) := by
  obtain ⟨g, c, fs, rest, h1, h2, h3⟩ := h
  refine ⟨g, c, fs, rest, h1, h2, ?_⟩
  rw [size_wq5]
  exact h3.keepIn (fun k x hk hx => heap_wq5_other hx (by omega) _ _ _ _ _ _)
/-- What the model's copy has in hand while it makes its answer. -/
structure CopyS (w : World) (lg la : Nat) (A v : Value) (p t r : Int) (os : List Ob) (xs : List Int) (wz : World) : Prop where
  base : Below w.heap.size w wz
  box : ∃ c1 c2 c3 c4, wz.heap[w.heap.size]? = some (.cells #[A, c1, c2, c3, c4] 32 (0, 0))
  res : ∃ b0 b1 b2 b3 b4, wz.heap[w.heap.size + 1]? = some (.cells #[b0, b1, b2, b3, b4] 32 (0, 0))
  gc : wz.heap[w.heap.size + 1 + 1]? = some (boxG p t r v)
  own : OwnI lg la wz v xs
  ar : IsArena wz A os
  low : w.heap.size + 1 + 1 + 1 ≤ lg
  mid : lg ≤ la
  size : la ≤ wz.heap.size
theorem CopyS.on {w : World} {lg la : Nat} {A v : Value} {p t r : Int} {os : List Ob} {xs : List Int} {wz w' : World} (h : CopyS w lg la A v p t r os xs wz) (hb : Below wz.heap.size wz w') : CopyS w lg la A v p t r os xs w' := by
  obtain ⟨c1, c2, c3, c4, hc⟩ := h.box
  obtain ⟨b0, b1, b2, b3, b4, hr⟩ := h.res
  exact ⟨below_more h.base hb, ⟨_, _, _, _, keep hc hb⟩, ⟨_, _, _, _, _, keep hr hb⟩, keep h.gc hb, ownI_on h.own hb, h.ar.on hb, h.low, h.mid, Nat.le_trans h.size hb.size⟩
def gCopy (P2 P4 P5 : Value → World → Prop) (vs : List Value) (j : Nat) (u : Value) (w : World) : Prop := (j = 2 → P2 u w) ∧ (j = 4 → P4 u w) ∧ (j = 5 → P5 u w) ∧ (j ≠ 2 → j ≠ 4 → j ≠ 5 → u = vs.getD j undef)
theorem gCopy_on {P2 P4 P5 : Value → World → Prop} {w w' : World} (h2 : ∀ u, P2 u w → P2 u w') (h4 : ∀ u, P4 u w → P4 u w') (h5 : ∀ u, P5 u w → P5 u w') (vs : List Value) : ∀ j u, gCopy P2 P4 P5 vs j u w → gCopy P2 P4 P5 vs j u w' := fun j u h => ⟨fun e => h2 u (h.1 e), fun e => h4 u (h.2.1 e), fun e => h5 u (h.2.2.1 e), h.2.2.2⟩
set_option maxHeartbeats 4000000 in
theorem specCopyH_any (pa : Addr) (c : Nat) (p t r : Int) (pg : Addr) (cg : Nat) (os : List Ob) (xs : List Int) (w : World) (ha : IsArena w (.slice (some pa) os.length c) os) (hx : IsInts w (.slice (some pg) xs.length cg) xs) (hl : os.length ≤ 1048576) (hs : Small8 os) (hn : xs.length ≤ 1048576) :
    Calls Tryz.prog 22 #[hpV (.slice (some pa) os.length c) p t r (.slice (some pg) xs.length cg)] w fun e w' => AnsH p t r os xs w e w' := by
  have CA : Hid (∀ w', IsArena w' (.slice (some pa) os.length c) os → Calls Tryz.prog 48 #[.slice (some pa) os.length c] w' fun e w'' => ArenaOwn os w' e w'') := fun w' h => specCopyA_any _ os w' h hl hs
  have HX : Hid (∀ w', Below w.heap.size w w' → IsInts w' (.slice (some pg) xs.length cg) xs) := fun w' hb => hx.on hb
  have HA : Hid (∀ w', Below w.heap.size w w' → IsArena w' (.slice (some pa) os.length c) os) := fun w' hb => ha.on hb
  have HN := hid_of hn
  have HA0 := hid_of (show ∀ w', Below w.heap.size w w' → IsArena w' (.slice (some pa) os.length c) os from fun w' hb => ha.on hb)
  clear ha hx hl hs hn
  obtain ⟨W, hW⟩ : ∃ W, W = ((w.alloc (boxH (.slice (some pa) os.length c) p t r (.slice (some pg) xs.length cg))).alloc (boxH (.slice none 0 0) 0 0 0 (.slice none 0 0))).alloc (boxG p t r (.slice (some pg) xs.length cg)) := ⟨_, rfl⟩
  have hbW : Below w.heap.size w W := by rw [hW]; go_grown
  have HWS : Hid (W.heap.size = w.heap.size + 1 + 1 + 1) := by show _ = _; rw [hW]; simp
  have HW0 : Hid (W.heap[w.heap.size]? = some (boxH (.slice (some pa) os.length c) p t r (.slice (some pg) xs.length cg))) := by show _ = _; rw [hW]; exact (heap_alloc_old _ _ (by simp; omega)).trans ((heap_alloc_old _ _ (by simp)).trans (heap_alloc_new w _))
  have HW1 : Hid (W.heap[w.heap.size + 1]? = some (boxH (.slice none 0 0) 0 0 0 (.slice none 0 0))) := by show _ = _; rw [hW]; exact heap_alloc_at1 _ _ _ _
  have HW2 : Hid (W.heap[w.heap.size + 1 + 1]? = some (boxG p t r (.slice (some pg) xs.length cg))) := by show _ = _; rw [hW]; exact heap_alloc_at2 _ _ _ _
  have HV := hid_of (HX.out W hbW)
  have HBW := hid_of hbW
  clear hbW
  go_enter Tryz.func22, Tryz.ntmps22
  go_wp2_with (at_builtin; refine wpList_copyI rfl (.tmp 6) (.tmp 8) rfl (((w.alloc (boxH (.slice (some pa) os.length c) p t r (.slice (some pg) xs.length cg))).alloc (boxH (.slice none 0 0) 0 0 0 (.slice none 0 0))).alloc (boxG p t r (.slice (some pg) xs.length cg))) (.slice (some pg) xs.length cg) xs (by show (Value.slice (some ⟨w.heap.size + 1 + 1 + 1, 0, none⟩) 0 0) = _; simp) rfl (by rw [← hW]; exact HV.out) HN.out ?_; intro v' w1 ho hb; rw [← hW] at ho hb; obtain ⟨av, cv, rfl, _, _⟩ := id ho.out; have q2 := cells4 (keep HW2.out hb.out); obtain ⟨q20, q21, q22, q23⟩ := q2; have qf := frozen_of (keep HW2.out hb.out))
  obtain ⟨la, hla⟩ : ∃ la, la = w1.heap.size := ⟨_, rfl⟩
  have HS : Hid (CopyS w (w.heap.size + 1 + 1 + 1) la (.slice (some pa) os.length c) (.slice av xs.length cv) p t r os xs (w1.setCell ⟨w.heap.size + 1 + 1, 3, none⟩ (.slice av xs.length cv))) := by
    have hb1 := below_more HBW.out hb.out
    have hbs := hb1.setCell (p := ⟨w.heap.size + 1 + 1, 3, none⟩) (by show w.heap.size ≤ w.heap.size + 1 + 1; omega) (.slice av xs.length cv)
    have hz := hb.out.size
    have hws := HWS.out
    refine ⟨hbs, ⟨_, _, _, _, setCell_keep (keep HW0.out hb.out) (by omega)⟩, ⟨_, _, _, _, _, setCell_keep (keep HW1.out hb.out) (by omega)⟩, ?_, ?_, HA.out _ hbs, Nat.le_refl _, by omega, by simp; omega⟩
    · have e := heap_setCell_same w1 (w.heap.size + 1 + 1) 3 _ _ (.slice av xs.length cv) (keep HW2.out hb.out)
      simpa using e
    · have e := ho.out
      rw [hws] at e
      rw [hla]
      exact e.move (fun k x h1 _ h => setCell_keep h (by omega)) (Nat.le_refl _) (Nat.le_refl _)
  clear hb ho HBW HW0 HW1 HW2 HWS HV HX HA HN hla hW q20 q21 q22 q23 qf
  refine wp_region_whole (by kernel_rfl) (by kernel_rfl) (by kernel_rfl) (by kernel_rfl) (Flat (CopyS w (w.heap.size + 1 + 1 + 1) la (.slice (some pa) os.length c) (.slice av xs.length cv) p t r os xs) (gCopy (OwnAt la os) (fun u wz => ∃ x, u = hpV x p t r (.slice av xs.length cv) ∧ OwnAt la os x wz) (fun _ wz => ∃ x, wz.heap[w.heap.size + 1]? = some (boxH x p t r (.slice av xs.length cv)) ∧ OwnAt la os x wz) [.pointer (some ⟨w.heap.size, 0, none⟩), .slice (some pa) os.length c, undef, gcV p t r (.slice av xs.length cv), undef, undef])) (flat_start (HS.out.on (below_draw _))) ?_ ?_
  · refine ⟨?_, ?_, ?_, ?_, ?_, ?_, trivial⟩
    · intro b0 us wz L hslot hoth hLi hR hcl hdo K hK
      have s1 : b0.tmps.getD 1 undef = .pointer (some ⟨w.heap.size, 0, none⟩) := hoth 1 (by rfl)
      clear hslot hoth hdo hcl hLi
      refine guard_none (by rfl) ?_
      go_simp
      exact hK _ _ (flat_mark (hR.1) (fun _ _ h => h) hR.2 ⟨fun h => absurd h (by decide), fun h => absurd h (by decide), fun h => absurd h (by decide), fun _ _ _ => rfl⟩)
    · intro b0 us wz L hslot hoth hLi hR hcl hdo K hK
      have s11 : b0.tmps.getD 11 undef = .pointer (some ⟨w.heap.size, 0, none⟩) := (hslot 0 11 (by rfl)).trans ((hR.2 0 (done_at hdo 0 (by rfl))).2.2.2 (by decide) (by decide) (by decide))
      obtain ⟨c1, c2, c3, c4, hbx⟩ := hR.1.box
      obtain ⟨k0, k1, k2, k3, k4⟩ := cells5 hbx
      clear hslot hoth hdo hcl hLi
      refine guard_none (by rfl) ?_
      go_simp
      exact hK _ _ (flat_mark (hR.1) (fun _ _ h => h) hR.2 ⟨fun h => absurd h (by decide), fun h => absurd h (by decide), fun h => absurd h (by decide), fun _ _ _ => rfl⟩)
    · intro b0 us wz L hslot hoth hLi hR hcl hdo K hK
      have s12 : b0.tmps.getD 12 undef = .slice (some pa) os.length c := (hslot 1 12 (by rfl)).trans ((hR.2 1 (done_at hdo 1 (by rfl))).2.2.2 (by decide) (by decide) (by decide))
      clear hslot hoth hdo hcl hLi
      refine guard_none (by rfl) ?_
      go_simp
      refine (CA.out _ hR.1.ar).mono ?_
      rintro e w' ⟨g, c', fs, rest, rfl, he, ho, hb⟩
      exact hK _ _ (flat_mark (hR.1.on hb) (gCopy_on (fun _ h => h.on hb) (fun _ h => by obtain ⟨x, h1, h2⟩ := h; exact ⟨x, h1, h2.on hb⟩) (fun _ h => by obtain ⟨x, h1, h2⟩ := h; exact ⟨x, keep h1 hb, h2.on hb⟩) _) hR.2 ⟨fun _ => ⟨g, c', fs, rest, rfl, he, ho.wide hR.1.size (Nat.le_refl _)⟩, fun h => absurd h (by decide), fun h => absurd h (by decide), fun h => absurd rfl h⟩)
    · intro b0 us wz L hslot hoth hLi hR hcl hdo K hK
      have s3 : b0.tmps.getD 3 undef = .pointer (some ⟨w.heap.size + 1 + 1, 0, none⟩) := hoth 3 (by rfl)
      obtain ⟨k0, k1, k2, k3⟩ := cells4 hR.1.gc
      clear hslot hoth hdo hcl hLi
      refine guard_none (by rfl) ?_
      go_simp
      exact hK _ _ (flat_mark (hR.1) (fun _ _ h => h) hR.2 ⟨fun h => absurd h (by decide), fun h => absurd h (by decide), fun h => absurd h (by decide), fun _ _ _ => rfl⟩)
    · intro b0 us wz L hslot hoth hLi hR hcl hdo K hK
      obtain ⟨g, c', fs, rest, hu, he, ho⟩ := (hR.2 2 (done_at hdo 2 (by rfl))).1 rfl
      have s13 : b0.tmps.getD 13 undef = .slice (some ⟨g, 0, none⟩) os.length c' := (hslot 2 13 (by rfl)).trans hu
      have s14 : b0.tmps.getD 14 undef = gcV p t r (.slice av xs.length cv) := (hslot 3 14 (by rfl)).trans ((hR.2 3 (done_at hdo 3 (by rfl))).2.2.2 (by decide) (by decide) (by decide))
      have t13 : b0.tmps[13]?.getD undef = .slice (some ⟨g, 0, none⟩) os.length c' := by rw [← Array.getD_eq_getD_getElem?]; exact s13
      have t14 : b0.tmps[14]?.getD undef = gcV p t r (.slice av xs.length cv) := by rw [← Array.getD_eq_getD_getElem?]; exact s14
      clear hslot hoth hdo hcl hLi
      refine guard_none (by rfl) ?_
      go_simp
      exact hK _ _ (flat_mark (hR.1) (fun _ _ h => h) hR.2 ⟨fun h => absurd h (by decide), fun _ => ⟨_, rfl, g, c', fs, rest, rfl, he, ho⟩, fun h => absurd h (by decide), fun _ h => absurd rfl h⟩)
    · intro b0 us wz L hslot hoth hLi hR hcl hdo K hK
      obtain ⟨x, hu, hx⟩ := (hR.2 4 (done_at hdo 4 (by rfl))).2.1 rfl
      obtain ⟨g, c', fs, rest, rfl, he, ho⟩ := id hx
      have s15 : b0.tmps.getD 15 undef = hpV (.slice (some ⟨g, 0, none⟩) os.length c') p t r (.slice av xs.length cv) := (hslot 4 15 (by rfl)).trans hu
      have s2 : b0.tmps.getD 2 undef = .pointer (some ⟨w.heap.size + 1, 0, none⟩) := hoth 2 (by rfl)
      obtain ⟨r0, r1, r2, r3, r4, hrs⟩ := hR.1.res
      obtain ⟨k0, k1, k2, k3, k4⟩ := cells5 hrs
      have kf := frozen_of hrs
      clear hslot hoth hdo hcl hLi
      refine guard_none (by rfl) ?_
      go_simp
      have hlo := hR.1.low
      have hmd := hR.1.mid
      have hB := hR.1
      have h5 : ∀ u, OwnAt la os u wz → OwnAt la os u (wq5 wz (w.heap.size + 1) 0 (.slice (some ⟨g, 0, none⟩) os.length c') p t r (.slice av xs.length cv)) := fun u h => h.five (by omega) _ _ _ _ _
      have hBase : CopyS w (w.heap.size + 1 + 1 + 1) la (.slice (some pa) os.length c) (.slice av xs.length cv) p t r os xs (wq5 wz (w.heap.size + 1) 0 (.slice (some ⟨g, 0, none⟩) os.length c') p t r (.slice av xs.length cv)) := by
        obtain ⟨c1, c2, c3, c4, hbx⟩ := hB.box
        have hbb := below_wq5 hB.base (g := w.heap.size + 1) (by omega) 0 (.slice (some ⟨g, 0, none⟩) os.length c') p t r (.slice av xs.length cv)
        exact ⟨hbb, ⟨_, _, _, _, heap_wq5_other hbx (by omega) _ _ _ _ _ _⟩, ⟨_, _, _, _, _, heap_wq5_new hrs _ _ _ _ _⟩, heap_wq5_other hB.gc (by omega) _ _ _ _ _ _, hB.own.move (fun k x h1 _ h => heap_wq5_other h (by omega) _ _ _ _ _ _) (Nat.le_refl _) (Nat.le_refl _), HA0.out _ hbb, hlo, hmd, by rw [size_wq5]; exact hB.size⟩
      exact hK undef _ (flat_mark (w' := wq5 wz (w.heap.size + 1) 0 (.slice (some ⟨g, 0, none⟩) os.length c') p t r (.slice av xs.length cv)) hBase (gCopy_on h5 (fun _ h => by obtain ⟨x, h1, h2⟩ := h; exact ⟨x, h1, h5 _ h2⟩) (fun _ h => ⟨_, heap_wq5_new hrs _ _ _ _ _, h5 _ hx⟩) _) hR.2 ⟨fun h => absurd h (by decide), fun h => absurd h (by decide), fun _ => ⟨_, heap_wq5_new hrs _ _ _ _ _, h5 _ hx⟩, fun _ _ h => absurd rfl h⟩)
  · intro us wn L hall hR a' ha'
    have g0 : us 0 = .pointer (some ⟨w.heap.size, 0, none⟩) := (hR.2 0 (hall 0 (by decide))).2.2.2 (by decide) (by decide) (by decide)
    have g1 : us 1 = .slice (some pa) os.length c := (hR.2 1 (hall 1 (by decide))).2.2.2 (by decide) (by decide) (by decide)
    obtain ⟨y2, g2⟩ : ∃ x, us 2 = x := ⟨_, rfl⟩
    have g3 : us 3 = gcV p t r (.slice av xs.length cv) := (hR.2 3 (hall 3 (by decide))).2.2.2 (by decide) (by decide) (by decide)
    obtain ⟨y4, g4⟩ : ∃ x, us 4 = x := ⟨_, rfl⟩
    obtain ⟨x, hx, hox⟩ := (hR.2 5 (hall 5 (by decide))).2.2.1 rfl
    obtain ⟨g, c', fs, rest, rfl, he, ho⟩ := hox
    have HB := hid_of hR.1
    have HO := hid_of (show arOf fs = os ∧ OwnA g c' fs rest la wn.heap.size wn from ⟨he, ho⟩)
    have HF := hid_of hx
    clear hR hall he ho hx
    simp only [putAll, g0, g1, g2, g3, g4] at ha'
    subst ha'
    go_frame
    have hfin := HF.out
    go_wp2
    refine bodyPost_ret (v := hpV (.slice (some ⟨g, 0, none⟩) os.length c') p t r (.slice av xs.length cv)) (by simp [results, go_sem, World.cell?, hfin]) rfl ⟨⟨_, _, rfl, g, c', fs, rest, la, wn.heap.size, rfl, HO.out.1, HO.out.2, ?_, ?_, ?_, Nat.le_refl _, Nat.le_refl _⟩, HB.out.base⟩
    · exact HB.out.own.move (fun _ _ _ _ h => h) (by have := HB.out.low; omega) HB.out.size
    · exact fun b hb => .inl (by have := (HB.out.own.blk hb).2.1; omega)
    · have := HB.out.low; have := HB.out.mid; omega
end Go.Proofs.YtbdljoldblpffaaGreat
