/-
  TapMove: what the model answers where nothing may flow.
-/
import Derived.Test.YtlemhlioidmanaaDoorSMove
namespace Go.Proofs.YtlemhlioidmanaaDoor
open Go.RowKit
set_option linter.unusedVariables false
set_option maxRecDepth 100000

theorem wraps_pred (n : Nat) (h : n ≤ 1048576) : IntKind.i64.wrap ((n : Int) - 1) = (n : Int) - 1 := by
  simp [IntKind.wrap, IntKind.bits, IntKind.signed]
  split <;> omega
set_option maxRecDepth 100000 in
set_option maxHeartbeats 16000000 in
theorem specMove_no (p0 : Addr) (n cap : Nat) (tss : List (List Re)) (P r p q h k t : Int) (w : World) (hx : IsWood w (.slice (some p0) n cap) tss) (hn : n = tss.length) (hcap : n ≤ cap) (hn6 : n ≤ 1048576) (hTL : ∀ i, (treeAt tss i).length ≤ 1048576) (hmay : mayB tss P r p q h k t = false) :
    Calls Tryd.prog 5 #[.slice (some p0) n cap, .int .i64 P, tapV r p q h k t] w fun e w' => MoveAns (moveOf tss P r p q h k t) (moveM tss P r p q h k t) w e w' := by
  rw [moveOf_no (moveB_no hmay), moveM_no (moveB_no hmay)]
  have HTL : Hid (∀ i, (treeAt tss i).length ≤ 1048576) := hTL
  have HNL : Hid (n = tss.length) := hn
  have CC : Hid (∀ w', IsWood w' (.slice (some p0) n cap) tss → Calls Tryd.prog 13 #[.slice (some p0) n cap] w' fun e w'' => ∃ g c fs rest, e = .returned (.slice (some ⟨g, 0, none⟩) n c) ∧ leafTs fs = tss ∧ OwnW g c fs rest w'.heap.size w''.heap.size w'' ∧ Below w'.heap.size w' w'') := fun w' hb => by
    rw [HNL.out] at hb ⊢
    exact specCopies_any p0 cap tss w' hb (by have := HNL.out; omega) HTL.out
  have HS00 : Hid (Mv w p0 n cap tss r p q h k t (w.alloc (boxT r p q h k t))) := mv_start _ _ _ _ _ _ hx
  have HX0 : Hid (∀ w', Below w.heap.size w w' → IsWood w' (.slice (some p0) n cap) tss) := fun w' hb => hx.on hb
  obtain ⟨o1, ho1⟩ : ∃ o, o = woodOk tss := ⟨_, rfl⟩
  obtain ⟨o2, ho2⟩ : ∃ o, o = tapOk r p q h k t := ⟨_, rfl⟩
  obtain ⟨o3, ho3⟩ : ∃ o, o = inB P 0 ((n : Int) - 1) := ⟨_, rfl⟩
  have CK : Hid (∀ w', IsWood w' (.slice (some p0) n cap) tss → Calls Tryd.prog 14 #[.slice (some p0) n cap] w' fun e w'' => e = .returned (.bool o1) ∧ Below w'.heap.size w' w'') := fun w' hb => by rw [ho1]; exact specAll_any _ tss w' hb.trees (by omega) HTL.out
  have CT2 : Hid (∀ w', Calls Tryd.prog 15 #[tapV r p q h k t] w' fun e w'' => e = .returned (.bool o2) ∧ Below w'.heap.size w' w'') := fun w' => by rw [ho2]; exact specTapOk_any r p q h k t w'
  have CI : Hid (∀ w', Calls Tryd.prog 16 #[.int .i64 P, .int .i64 0, .int .i64 ((n : Int) - 1)] w' fun e w'' => e = .returned (.bool o3) ∧ w' = w'') := fun w' => by rw [ho3]; exact l1In_b P 0 ((n : Int) - 1) w'
  obtain ⟨m, m5, qc, qa, qb, HDD⟩ : ∃ (m m5 qc : Nat) (qa qb : Addr), Hid ((o1 = false ∧ Hid True) ∨ (o1 = true ∧ o2 = false ∧ Hid True) ∨ (o1 = true ∧ o2 = true ∧ o3 = false ∧ Hid True) ∨ (o1 = true ∧ o2 = true ∧ o3 = true ∧ Hid ((n : Int) ≤ p)) ∨ (o1 = true ∧ o2 = true ∧ o3 = true ∧ P = (m : Int) ∧ Hid (m < n ∧ p < (n : Int) ∧ p0.add m = qa ∧ (∀ w', Below w.heap.size w w' → w'.cell? qa = some (.slice (some qb) m5 qc) ∧ True) ∧ ∀ w', Below w.heap.size w w' → Calls Tryd.prog 17 #[.slice (some qb) m5 qc, .int .i64 r] w' fun e w'' => e = .returned (.bool false) ∧ Below w'.heap.size w' w''))) := by
    cases h1 : o1 with
    | false => exact ⟨0, 0, 0, p0, p0, .inl ⟨rfl, trivial⟩⟩
    | true =>
      cases h2 : o2 with
      | false => exact ⟨0, 0, 0, p0, p0, .inr (.inl ⟨rfl, rfl, trivial⟩)⟩
      | true =>
        cases h3 : o3 with
        | false => exact ⟨0, 0, 0, p0, p0, .inr (.inr (.inl ⟨rfl, rfl, rfl, trivial⟩))⟩
        | true =>
          by_cases hp : (n : Int) ≤ p
          · exact ⟨0, 0, 0, p0, p0, .inr (.inr (.inr (.inl ⟨rfl, rfl, rfl, hp⟩)))⟩
          · rw [h3] at ho3
            have hP := inB_true ho3.symm
            obtain ⟨m, rfl⟩ : ∃ m : Nat, P = (m : Int) := ⟨P.toNat, by omega⟩
            have hm : m < tss.length := by omega
            obtain ⟨qa, qb, qc, hq, hc, hu⟩ := hx.at hm
            have hw : woodOk tss = true := by rw [← ho1, h1]
            have hl : liveIn (treeAt tss m) r = false := by
              have e := hmay
              unfold mayB at e
              rw [hw, ← ho2, h2, decide_eq_true (by omega : (0 : Int) ≤ m), decide_eq_true (by omega : (m : Int) < tss.length), decide_eq_true (by omega : p < tss.length)] at e
              simpa using e
            refine ⟨m, (treeAt tss m).length, qc, qa, qb, .inr (.inr (.inr (.inr ⟨rfl, rfl, rfl, rfl, by omega, by omega, hq, fun w' hb => ⟨(hb.cell (World.block_lt_of_cell? w _ hc)).trans hc, trivial⟩, fun w' hb => ?_⟩)))⟩
            have e := specLive_any _ (treeAt tss m) r w' (hu.on hb) (hTL m)
            rw [hl] at e
            exact e
  have HN6 : Hid (n ≤ 1048576 ∧ n ≤ cap) := ⟨hn6, hcap⟩
  clear hx hn hcap hTL hmay ho1 ho2 ho3
  go_enter Tryd.func5, Tryd.ntmps5
  go_wp2_with fail
  refine (CC.out _ HS00.out.wood).mono ?_
  rintro e w1 ⟨g0, c0, fs0, rest0, rfl, hfs, ho, hb⟩
  have HS : Hid (St w p0 n cap tss r p q h k t g0 c0 fs0 rest0 w1) := ⟨HS00.out.on hb, ho.wide (by simp) (Nat.le_refl _)⟩
  have HFS : Hid (leafTs fs0 = tss ∧ fs0.length = n) := ⟨hfs, by rw [← leafTs_length, hfs]; exact HNL.out.symm⟩
  clear HS00 hb ho hfs
  go_wp2_with fail
  obtain ⟨l, HL⟩ : ∃ l, Hid ((l = [.slice (some p0) n cap, .bool false, .bool true, .bool true, undef, undef, undef, .bool true, .bool true, undef, undef, undef, undef, undef, undef, .bool true, .bool true, undef, undef, undef, undef, undef, .bool true, .bool true, undef, undef, undef, undef, undef, undef, undef, undef, undef, .bool true] ∧ o1 = false ∧ Hid True) ∨ (l = [.slice (some p0) n cap, .bool true, .bool false, .bool false, tapV r p q h k t, .bool false, .bool true, .bool true, .bool true, undef, undef, undef, undef, undef, undef, .bool true, .bool true, undef, undef, undef, undef, undef, .bool true, .bool true, undef, undef, undef, undef, undef, undef, undef, undef, undef, .bool true] ∧ o1 = true ∧ o2 = false ∧ Hid True) ∨ (l = [.slice (some p0) n cap, .bool true, .bool false, .bool false, tapV r p q h k t, .bool true, .bool false, .bool false, .bool false, .int .i64 P, .slice (some p0) n cap, .int .i64 (n : Int), .int .i64 ((n : Int) - 1), .bool false, .bool true, .bool true, .bool true, undef, undef, undef, undef, undef, .bool true, .bool true, undef, undef, undef, undef, undef, undef, undef, undef, undef, .bool true] ∧ o1 = true ∧ o2 = true ∧ o3 = false ∧ Hid True) ∨ (l = [.slice (some p0) n cap, .bool true, .bool false, .bool false, tapV r p q h k t, .bool true, .bool false, .bool false, .bool false, .int .i64 P, .slice (some p0) n cap, .int .i64 (n : Int), .int .i64 ((n : Int) - 1), .bool true, .bool false, .bool false, .bool false, .pointer (some ⟨w.heap.size, 1, none⟩), .int .i64 p, .slice (some p0) n cap, .int .i64 (n : Int), .bool true, .bool true, .bool true, undef, undef, undef, undef, undef, undef, undef, undef, undef, .bool true] ∧ o1 = true ∧ o2 = true ∧ o3 = true ∧ Hid ((n : Int) ≤ p)) ∨ (l = [.slice (some p0) n cap, .bool true, .bool false, .bool false, tapV r p q h k t, .bool true, .bool false, .bool false, .bool false, .int .i64 (m : Int), .slice (some p0) n cap, .int .i64 (n : Int), .int .i64 ((n : Int) - 1), .bool true, .bool false, .bool false, .bool false, .pointer (some ⟨w.heap.size, 1, none⟩), .int .i64 p, .slice (some p0) n cap, .int .i64 (n : Int), .bool false, .bool false, .bool false, .slice (some p0) n cap, .int .i64 (m : Int), .pointer (some qa), .pointer (some qa), .slice (some qb) m5 qc, .pointer (some ⟨w.heap.size, 0, none⟩), .int .i64 r, .bool false, .bool true, .bool true] ∧ o1 = true ∧ o2 = true ∧ o3 = true ∧ P = (m : Int) ∧ Hid (m < n ∧ p < (n : Int) ∧ p0.add m = qa ∧ (∀ w', Below w.heap.size w w' → w'.cell? qa = some (.slice (some qb) m5 qc) ∧ True) ∧ ∀ w', Below w.heap.size w w' → Calls Tryd.prog 17 #[.slice (some qb) m5 qc, .int .i64 r] w' fun e w'' => e = .returned (.bool false) ∧ Below w'.heap.size w' w''))) := by
    rcases HDD.out with h | h | h | h | h
    · exact ⟨_, .inl ⟨rfl, h⟩⟩
    · exact ⟨_, .inr (.inl ⟨rfl, h⟩)⟩
    · exact ⟨_, .inr (.inr (.inl ⟨rfl, h⟩))⟩
    · exact ⟨_, .inr (.inr (.inr (.inl ⟨rfl, h⟩)))⟩
    · exact ⟨_, .inr (.inr (.inr (.inr ⟨rfl, h⟩)))⟩
  refine wp_region_whole (by kernel_rfl) (by kernel_rfl) (by kernel_rfl) (by kernel_rfl) (Flat (fun wz => St w p0 n cap tss r p q h k t g0 c0 fs0 rest0 wz) (gVals l)) (flat_start (HS.out.on (below_draw _))) ?_ ?_
  · refine ⟨?_, ?_, ?_, ?_, ?_, ?_, ?_, ?_, ?_, ?_, ?_, ?_, ?_, ?_, ?_, ?_, ?_, ?_, ?_, ?_, ?_, ?_, ?_, ?_, ?_, ?_, ?_, ?_, ?_, ?_, ?_, ?_, ?_, ?_, trivial⟩
    · intro b0 us wz L hslot hoth hLi hR hcl hdo K hK
      rcases HL.out with ⟨rfl, rfl, hf⟩ | ⟨rfl, rfl, rfl, hf⟩ | ⟨rfl, rfl, rfl, rfl, hf⟩ | ⟨rfl, rfl, rfl, rfl, hf⟩ | ⟨rfl, rfl, rfl, rfl, rfl, hf⟩
      · have s0 : b0.tmps.getD 0 undef = .slice (some p0) n cap := hoth 0 (by rfl)
        clear hslot hoth hdo hcl hLi
        refine guard_none (by rfl) ?_
        go_simp
        exact hK _ _ (flat_mark (hR.1) (fun _ _ h => h) hR.2 rfl)
      · have s0 : b0.tmps.getD 0 undef = .slice (some p0) n cap := hoth 0 (by rfl)
        clear hslot hoth hdo hcl hLi
        refine guard_none (by rfl) ?_
        go_simp
        exact hK _ _ (flat_mark (hR.1) (fun _ _ h => h) hR.2 rfl)
      · have s0 : b0.tmps.getD 0 undef = .slice (some p0) n cap := hoth 0 (by rfl)
        clear hslot hoth hdo hcl hLi
        refine guard_none (by rfl) ?_
        go_simp
        exact hK _ _ (flat_mark (hR.1) (fun _ _ h => h) hR.2 rfl)
      · have s0 : b0.tmps.getD 0 undef = .slice (some p0) n cap := hoth 0 (by rfl)
        clear hslot hoth hdo hcl hLi
        refine guard_none (by rfl) ?_
        go_simp
        exact hK _ _ (flat_mark (hR.1) (fun _ _ h => h) hR.2 rfl)
      · have s0 : b0.tmps.getD 0 undef = .slice (some p0) n cap := hoth 0 (by rfl)
        clear hslot hoth hdo hcl hLi
        refine guard_none (by rfl) ?_
        go_simp
        exact hK _ _ (flat_mark (hR.1) (fun _ _ h => h) hR.2 rfl)
    · intro b0 us wz L hslot hoth hLi hR hcl hdo K hK
      rcases HL.out with ⟨rfl, rfl, hf⟩ | ⟨rfl, rfl, rfl, hf⟩ | ⟨rfl, rfl, rfl, rfl, hf⟩ | ⟨rfl, rfl, rfl, rfl, hf⟩ | ⟨rfl, rfl, rfl, rfl, rfl, hf⟩
      · have s17 : b0.tmps.getD 17 undef = .slice (some p0) n cap := (hslot 0 17 (by rfl)).trans (hR.2 0 (done_at hdo 0 (by rfl)))
        clear hslot hoth hdo hcl hLi
        refine guard_none (by rfl) ?_
        go_simp
        refine (CK.out wz hR.1.mv.wood).mono ?_
        rintro e w' ⟨rfl, hb⟩
        exact hK _ _ (flat_mark (hR.1.on hb) (fun _ _ h => h) hR.2 rfl)
      · have s17 : b0.tmps.getD 17 undef = .slice (some p0) n cap := (hslot 0 17 (by rfl)).trans (hR.2 0 (done_at hdo 0 (by rfl)))
        clear hslot hoth hdo hcl hLi
        refine guard_none (by rfl) ?_
        go_simp
        refine (CK.out wz hR.1.mv.wood).mono ?_
        rintro e w' ⟨rfl, hb⟩
        exact hK _ _ (flat_mark (hR.1.on hb) (fun _ _ h => h) hR.2 rfl)
      · have s17 : b0.tmps.getD 17 undef = .slice (some p0) n cap := (hslot 0 17 (by rfl)).trans (hR.2 0 (done_at hdo 0 (by rfl)))
        clear hslot hoth hdo hcl hLi
        refine guard_none (by rfl) ?_
        go_simp
        refine (CK.out wz hR.1.mv.wood).mono ?_
        rintro e w' ⟨rfl, hb⟩
        exact hK _ _ (flat_mark (hR.1.on hb) (fun _ _ h => h) hR.2 rfl)
      · have s17 : b0.tmps.getD 17 undef = .slice (some p0) n cap := (hslot 0 17 (by rfl)).trans (hR.2 0 (done_at hdo 0 (by rfl)))
        clear hslot hoth hdo hcl hLi
        refine guard_none (by rfl) ?_
        go_simp
        refine (CK.out wz hR.1.mv.wood).mono ?_
        rintro e w' ⟨rfl, hb⟩
        exact hK _ _ (flat_mark (hR.1.on hb) (fun _ _ h => h) hR.2 rfl)
      · have s17 : b0.tmps.getD 17 undef = .slice (some p0) n cap := (hslot 0 17 (by rfl)).trans (hR.2 0 (done_at hdo 0 (by rfl)))
        clear hslot hoth hdo hcl hLi
        refine guard_none (by rfl) ?_
        go_simp
        refine (CK.out wz hR.1.mv.wood).mono ?_
        rintro e w' ⟨rfl, hb⟩
        exact hK _ _ (flat_mark (hR.1.on hb) (fun _ _ h => h) hR.2 rfl)
    · intro b0 us wz L hslot hoth hLi hR hcl hdo K hK
      rcases HL.out with ⟨rfl, rfl, hf⟩ | ⟨rfl, rfl, rfl, hf⟩ | ⟨rfl, rfl, rfl, rfl, hf⟩ | ⟨rfl, rfl, rfl, rfl, hf⟩ | ⟨rfl, rfl, rfl, rfl, rfl, hf⟩
      · have s18 : b0.tmps.getD 18 undef = .bool false := (hslot 1 18 (by rfl)).trans (hR.2 1 (done_at hdo 1 (by rfl)))
        clear hslot hoth hdo hcl hLi
        refine guard_none (by rfl) ?_
        go_simp
        exact hK _ _ (flat_mark (hR.1) (fun _ _ h => h) hR.2 rfl)
      · have s18 : b0.tmps.getD 18 undef = .bool true := (hslot 1 18 (by rfl)).trans (hR.2 1 (done_at hdo 1 (by rfl)))
        clear hslot hoth hdo hcl hLi
        refine guard_none (by rfl) ?_
        go_simp
        exact hK _ _ (flat_mark (hR.1) (fun _ _ h => h) hR.2 rfl)
      · have s18 : b0.tmps.getD 18 undef = .bool true := (hslot 1 18 (by rfl)).trans (hR.2 1 (done_at hdo 1 (by rfl)))
        clear hslot hoth hdo hcl hLi
        refine guard_none (by rfl) ?_
        go_simp
        exact hK _ _ (flat_mark (hR.1) (fun _ _ h => h) hR.2 rfl)
      · have s18 : b0.tmps.getD 18 undef = .bool true := (hslot 1 18 (by rfl)).trans (hR.2 1 (done_at hdo 1 (by rfl)))
        clear hslot hoth hdo hcl hLi
        refine guard_none (by rfl) ?_
        go_simp
        exact hK _ _ (flat_mark (hR.1) (fun _ _ h => h) hR.2 rfl)
      · have s18 : b0.tmps.getD 18 undef = .bool true := (hslot 1 18 (by rfl)).trans (hR.2 1 (done_at hdo 1 (by rfl)))
        clear hslot hoth hdo hcl hLi
        refine guard_none (by rfl) ?_
        go_simp
        exact hK _ _ (flat_mark (hR.1) (fun _ _ h => h) hR.2 rfl)
    · intro b0 us wz L hslot hoth hLi hR hcl hdo K hK
      rcases HL.out with ⟨rfl, rfl, hf⟩ | ⟨rfl, rfl, rfl, hf⟩ | ⟨rfl, rfl, rfl, rfl, hf⟩ | ⟨rfl, rfl, rfl, rfl, hf⟩ | ⟨rfl, rfl, rfl, rfl, rfl, hf⟩
      · have s19 : b0.tmps.getD 19 undef = .bool true := (hslot 2 19 (by rfl)).trans (hR.2 2 (done_at hdo 2 (by rfl)))
        clear hslot hoth hdo hcl hLi
        refine guard_none (by rfl) ?_
        go_simp
        exact hK _ _ (flat_mark (hR.1) (fun _ _ h => h) hR.2 rfl)
      · have s19 : b0.tmps.getD 19 undef = .bool false := (hslot 2 19 (by rfl)).trans (hR.2 2 (done_at hdo 2 (by rfl)))
        clear hslot hoth hdo hcl hLi
        refine guard_none (by rfl) ?_
        go_simp
        exact hK _ _ (flat_mark (hR.1) (fun _ _ h => h) hR.2 rfl)
      · have s19 : b0.tmps.getD 19 undef = .bool false := (hslot 2 19 (by rfl)).trans (hR.2 2 (done_at hdo 2 (by rfl)))
        clear hslot hoth hdo hcl hLi
        refine guard_none (by rfl) ?_
        go_simp
        exact hK _ _ (flat_mark (hR.1) (fun _ _ h => h) hR.2 rfl)
      · have s19 : b0.tmps.getD 19 undef = .bool false := (hslot 2 19 (by rfl)).trans (hR.2 2 (done_at hdo 2 (by rfl)))
        clear hslot hoth hdo hcl hLi
        refine guard_none (by rfl) ?_
        go_simp
        exact hK _ _ (flat_mark (hR.1) (fun _ _ h => h) hR.2 rfl)
      · have s19 : b0.tmps.getD 19 undef = .bool false := (hslot 2 19 (by rfl)).trans (hR.2 2 (done_at hdo 2 (by rfl)))
        clear hslot hoth hdo hcl hLi
        refine guard_none (by rfl) ?_
        go_simp
        exact hK _ _ (flat_mark (hR.1) (fun _ _ h => h) hR.2 rfl)
    · intro b0 us wz L hslot hoth hLi hR hcl hdo K hK
      rcases HL.out with ⟨rfl, rfl, hf⟩ | ⟨rfl, rfl, rfl, hf⟩ | ⟨rfl, rfl, rfl, rfl, hf⟩ | ⟨rfl, rfl, rfl, rfl, hf⟩ | ⟨rfl, rfl, rfl, rfl, rfl, hf⟩
      · have gg : us 3 = .bool true := hR.2 3 (done_at hdo 3 (by rfl))
        refine guard_off (j := 3) (want := false) (d := 20) (by rfl) (by rfl) gg (by rfl) ?_
        exact hK undef _ (flat_mark (hR.1) (fun _ _ h => h) hR.2 rfl)
      · have gg : us 3 = .bool false := hR.2 3 (done_at hdo 3 (by rfl))
        have s5 : b0.tmps.getD 5 undef = .pointer (some ⟨w.heap.size, 0, none⟩) := hoth 5 (by rfl)
        have t0 := (hR.1.mv.tap).c0
        have t1 := (hR.1.mv.tap).c1
        have t2 := (hR.1.mv.tap).c2
        have t3 := (hR.1.mv.tap).c3
        have t4 := (hR.1.mv.tap).c4
        have t5 := (hR.1.mv.tap).c5
        clear hslot hoth hdo hcl hLi
        refine guard_on (j := 3) (want := false) (d := 20) (by rfl) (by rfl) gg ?_
        go_simp
        exact hK _ _ (flat_mark (hR.1) (fun _ _ h => h) hR.2 rfl)
      · have gg : us 3 = .bool false := hR.2 3 (done_at hdo 3 (by rfl))
        have s5 : b0.tmps.getD 5 undef = .pointer (some ⟨w.heap.size, 0, none⟩) := hoth 5 (by rfl)
        have t0 := (hR.1.mv.tap).c0
        have t1 := (hR.1.mv.tap).c1
        have t2 := (hR.1.mv.tap).c2
        have t3 := (hR.1.mv.tap).c3
        have t4 := (hR.1.mv.tap).c4
        have t5 := (hR.1.mv.tap).c5
        clear hslot hoth hdo hcl hLi
        refine guard_on (j := 3) (want := false) (d := 20) (by rfl) (by rfl) gg ?_
        go_simp
        exact hK _ _ (flat_mark (hR.1) (fun _ _ h => h) hR.2 rfl)
      · have gg : us 3 = .bool false := hR.2 3 (done_at hdo 3 (by rfl))
        have s5 : b0.tmps.getD 5 undef = .pointer (some ⟨w.heap.size, 0, none⟩) := hoth 5 (by rfl)
        have t0 := (hR.1.mv.tap).c0
        have t1 := (hR.1.mv.tap).c1
        have t2 := (hR.1.mv.tap).c2
        have t3 := (hR.1.mv.tap).c3
        have t4 := (hR.1.mv.tap).c4
        have t5 := (hR.1.mv.tap).c5
        clear hslot hoth hdo hcl hLi
        refine guard_on (j := 3) (want := false) (d := 20) (by rfl) (by rfl) gg ?_
        go_simp
        exact hK _ _ (flat_mark (hR.1) (fun _ _ h => h) hR.2 rfl)
      · have gg : us 3 = .bool false := hR.2 3 (done_at hdo 3 (by rfl))
        have s5 : b0.tmps.getD 5 undef = .pointer (some ⟨w.heap.size, 0, none⟩) := hoth 5 (by rfl)
        have t0 := (hR.1.mv.tap).c0
        have t1 := (hR.1.mv.tap).c1
        have t2 := (hR.1.mv.tap).c2
        have t3 := (hR.1.mv.tap).c3
        have t4 := (hR.1.mv.tap).c4
        have t5 := (hR.1.mv.tap).c5
        clear hslot hoth hdo hcl hLi
        refine guard_on (j := 3) (want := false) (d := 20) (by rfl) (by rfl) gg ?_
        go_simp
        exact hK _ _ (flat_mark (hR.1) (fun _ _ h => h) hR.2 rfl)
    · intro b0 us wz L hslot hoth hLi hR hcl hdo K hK
      rcases HL.out with ⟨rfl, rfl, hf⟩ | ⟨rfl, rfl, rfl, hf⟩ | ⟨rfl, rfl, rfl, rfl, hf⟩ | ⟨rfl, rfl, rfl, rfl, hf⟩ | ⟨rfl, rfl, rfl, rfl, rfl, hf⟩
      · have gg : us 3 = .bool true := hR.2 3 (done_at hdo 3 (by rfl))
        refine guard_off (j := 3) (want := false) (d := 20) (by rfl) (by rfl) gg (by rfl) ?_
        exact hK undef _ (flat_mark (hR.1) (fun _ _ h => h) hR.2 rfl)
      · have gg : us 3 = .bool false := hR.2 3 (done_at hdo 3 (by rfl))
        have s21 : b0.tmps.getD 21 undef = tapV r p q h k t := (hslot 4 21 (by rfl)).trans (hR.2 4 (done_at hdo 4 (by rfl)))
        clear hslot hoth hdo hcl hLi
        refine guard_on (j := 3) (want := false) (d := 20) (by rfl) (by rfl) gg ?_
        go_simp
        refine (CT2.out wz).mono ?_
        rintro e w' ⟨rfl, hb⟩
        exact hK _ _ (flat_mark (hR.1.on hb) (fun _ _ h => h) hR.2 rfl)
      · have gg : us 3 = .bool false := hR.2 3 (done_at hdo 3 (by rfl))
        have s21 : b0.tmps.getD 21 undef = tapV r p q h k t := (hslot 4 21 (by rfl)).trans (hR.2 4 (done_at hdo 4 (by rfl)))
        clear hslot hoth hdo hcl hLi
        refine guard_on (j := 3) (want := false) (d := 20) (by rfl) (by rfl) gg ?_
        go_simp
        refine (CT2.out wz).mono ?_
        rintro e w' ⟨rfl, hb⟩
        exact hK _ _ (flat_mark (hR.1.on hb) (fun _ _ h => h) hR.2 rfl)
      · have gg : us 3 = .bool false := hR.2 3 (done_at hdo 3 (by rfl))
        have s21 : b0.tmps.getD 21 undef = tapV r p q h k t := (hslot 4 21 (by rfl)).trans (hR.2 4 (done_at hdo 4 (by rfl)))
        clear hslot hoth hdo hcl hLi
        refine guard_on (j := 3) (want := false) (d := 20) (by rfl) (by rfl) gg ?_
        go_simp
        refine (CT2.out wz).mono ?_
        rintro e w' ⟨rfl, hb⟩
        exact hK _ _ (flat_mark (hR.1.on hb) (fun _ _ h => h) hR.2 rfl)
      · have gg : us 3 = .bool false := hR.2 3 (done_at hdo 3 (by rfl))
        have s21 : b0.tmps.getD 21 undef = tapV r p q h k t := (hslot 4 21 (by rfl)).trans (hR.2 4 (done_at hdo 4 (by rfl)))
        clear hslot hoth hdo hcl hLi
        refine guard_on (j := 3) (want := false) (d := 20) (by rfl) (by rfl) gg ?_
        go_simp
        refine (CT2.out wz).mono ?_
        rintro e w' ⟨rfl, hb⟩
        exact hK _ _ (flat_mark (hR.1.on hb) (fun _ _ h => h) hR.2 rfl)
    · intro b0 us wz L hslot hoth hLi hR hcl hdo K hK
      rcases HL.out with ⟨rfl, rfl, hf⟩ | ⟨rfl, rfl, rfl, hf⟩ | ⟨rfl, rfl, rfl, rfl, hf⟩ | ⟨rfl, rfl, rfl, rfl, hf⟩ | ⟨rfl, rfl, rfl, rfl, rfl, hf⟩
      · have gg : us 3 = .bool true := hR.2 3 (done_at hdo 3 (by rfl))
        refine guard_off (j := 3) (want := false) (d := 20) (by rfl) (by rfl) gg (by rfl) ?_
        exact hK undef _ (flat_mark (hR.1) (fun _ _ h => h) hR.2 rfl)
      · have gg : us 3 = .bool false := hR.2 3 (done_at hdo 3 (by rfl))
        have s22 : b0.tmps.getD 22 undef = .bool false := (hslot 5 22 (by rfl)).trans (hR.2 5 (done_at hdo 5 (by rfl)))
        clear hslot hoth hdo hcl hLi
        refine guard_on (j := 3) (want := false) (d := 20) (by rfl) (by rfl) gg ?_
        go_simp
        exact hK _ _ (flat_mark (hR.1) (fun _ _ h => h) hR.2 rfl)
      · have gg : us 3 = .bool false := hR.2 3 (done_at hdo 3 (by rfl))
        have s22 : b0.tmps.getD 22 undef = .bool true := (hslot 5 22 (by rfl)).trans (hR.2 5 (done_at hdo 5 (by rfl)))
        clear hslot hoth hdo hcl hLi
        refine guard_on (j := 3) (want := false) (d := 20) (by rfl) (by rfl) gg ?_
        go_simp
        exact hK _ _ (flat_mark (hR.1) (fun _ _ h => h) hR.2 rfl)
      · have gg : us 3 = .bool false := hR.2 3 (done_at hdo 3 (by rfl))
        have s22 : b0.tmps.getD 22 undef = .bool true := (hslot 5 22 (by rfl)).trans (hR.2 5 (done_at hdo 5 (by rfl)))
        clear hslot hoth hdo hcl hLi
        refine guard_on (j := 3) (want := false) (d := 20) (by rfl) (by rfl) gg ?_
        go_simp
        exact hK _ _ (flat_mark (hR.1) (fun _ _ h => h) hR.2 rfl)
      · have gg : us 3 = .bool false := hR.2 3 (done_at hdo 3 (by rfl))
        have s22 : b0.tmps.getD 22 undef = .bool true := (hslot 5 22 (by rfl)).trans (hR.2 5 (done_at hdo 5 (by rfl)))
        clear hslot hoth hdo hcl hLi
        refine guard_on (j := 3) (want := false) (d := 20) (by rfl) (by rfl) gg ?_
        go_simp
        exact hK _ _ (flat_mark (hR.1) (fun _ _ h => h) hR.2 rfl)
    · intro b0 us wz L hslot hoth hLi hR hcl hdo K hK
      rcases HL.out with ⟨rfl, rfl, hf⟩ | ⟨rfl, rfl, rfl, hf⟩ | ⟨rfl, rfl, rfl, rfl, hf⟩ | ⟨rfl, rfl, rfl, rfl, hf⟩ | ⟨rfl, rfl, rfl, rfl, rfl, hf⟩
      · have s20 : b0.tmps.getD 20 undef = .bool true := (hslot 3 20 (by rfl)).trans (hR.2 3 (done_at hdo 3 (by rfl)))
        have s23 : b0.tmps.getD 23 undef = undef := (hslot 6 23 (by rfl)).trans (hR.2 6 (done_at hdo 6 (by rfl)))
        clear hslot hoth hdo hcl hLi
        refine guard_none (by rfl) ?_
        go_simp
        exact hK _ _ (flat_mark (hR.1) (fun _ _ h => h) hR.2 rfl)
      · have s20 : b0.tmps.getD 20 undef = .bool false := (hslot 3 20 (by rfl)).trans (hR.2 3 (done_at hdo 3 (by rfl)))
        have s23 : b0.tmps.getD 23 undef = .bool true := (hslot 6 23 (by rfl)).trans (hR.2 6 (done_at hdo 6 (by rfl)))
        clear hslot hoth hdo hcl hLi
        refine guard_none (by rfl) ?_
        go_simp
        exact hK _ _ (flat_mark (hR.1) (fun _ _ h => h) hR.2 rfl)
      · have s20 : b0.tmps.getD 20 undef = .bool false := (hslot 3 20 (by rfl)).trans (hR.2 3 (done_at hdo 3 (by rfl)))
        have s23 : b0.tmps.getD 23 undef = .bool false := (hslot 6 23 (by rfl)).trans (hR.2 6 (done_at hdo 6 (by rfl)))
        clear hslot hoth hdo hcl hLi
        refine guard_none (by rfl) ?_
        go_simp
        exact hK _ _ (flat_mark (hR.1) (fun _ _ h => h) hR.2 rfl)
      · have s20 : b0.tmps.getD 20 undef = .bool false := (hslot 3 20 (by rfl)).trans (hR.2 3 (done_at hdo 3 (by rfl)))
        have s23 : b0.tmps.getD 23 undef = .bool false := (hslot 6 23 (by rfl)).trans (hR.2 6 (done_at hdo 6 (by rfl)))
        clear hslot hoth hdo hcl hLi
        refine guard_none (by rfl) ?_
        go_simp
        exact hK _ _ (flat_mark (hR.1) (fun _ _ h => h) hR.2 rfl)
      · have s20 : b0.tmps.getD 20 undef = .bool false := (hslot 3 20 (by rfl)).trans (hR.2 3 (done_at hdo 3 (by rfl)))
        have s23 : b0.tmps.getD 23 undef = .bool false := (hslot 6 23 (by rfl)).trans (hR.2 6 (done_at hdo 6 (by rfl)))
        clear hslot hoth hdo hcl hLi
        refine guard_none (by rfl) ?_
        go_simp
        exact hK _ _ (flat_mark (hR.1) (fun _ _ h => h) hR.2 rfl)
    · intro b0 us wz L hslot hoth hLi hR hcl hdo K hK
      rcases HL.out with ⟨rfl, rfl, hf⟩ | ⟨rfl, rfl, rfl, hf⟩ | ⟨rfl, rfl, rfl, rfl, hf⟩ | ⟨rfl, rfl, rfl, rfl, hf⟩ | ⟨rfl, rfl, rfl, rfl, rfl, hf⟩
      · have s24 : b0.tmps.getD 24 undef = .bool true := (hslot 7 24 (by rfl)).trans (hR.2 7 (done_at hdo 7 (by rfl)))
        clear hslot hoth hdo hcl hLi
        refine guard_none (by rfl) ?_
        go_simp
        exact hK _ _ (flat_mark (hR.1) (fun _ _ h => h) hR.2 rfl)
      · have s24 : b0.tmps.getD 24 undef = .bool true := (hslot 7 24 (by rfl)).trans (hR.2 7 (done_at hdo 7 (by rfl)))
        clear hslot hoth hdo hcl hLi
        refine guard_none (by rfl) ?_
        go_simp
        exact hK _ _ (flat_mark (hR.1) (fun _ _ h => h) hR.2 rfl)
      · have s24 : b0.tmps.getD 24 undef = .bool false := (hslot 7 24 (by rfl)).trans (hR.2 7 (done_at hdo 7 (by rfl)))
        clear hslot hoth hdo hcl hLi
        refine guard_none (by rfl) ?_
        go_simp
        exact hK _ _ (flat_mark (hR.1) (fun _ _ h => h) hR.2 rfl)
      · have s24 : b0.tmps.getD 24 undef = .bool false := (hslot 7 24 (by rfl)).trans (hR.2 7 (done_at hdo 7 (by rfl)))
        clear hslot hoth hdo hcl hLi
        refine guard_none (by rfl) ?_
        go_simp
        exact hK _ _ (flat_mark (hR.1) (fun _ _ h => h) hR.2 rfl)
      · have s24 : b0.tmps.getD 24 undef = .bool false := (hslot 7 24 (by rfl)).trans (hR.2 7 (done_at hdo 7 (by rfl)))
        clear hslot hoth hdo hcl hLi
        refine guard_none (by rfl) ?_
        go_simp
        exact hK _ _ (flat_mark (hR.1) (fun _ _ h => h) hR.2 rfl)
    · intro b0 us wz L hslot hoth hLi hR hcl hdo K hK
      rcases HL.out with ⟨rfl, rfl, hf⟩ | ⟨rfl, rfl, rfl, hf⟩ | ⟨rfl, rfl, rfl, rfl, hf⟩ | ⟨rfl, rfl, rfl, rfl, hf⟩ | ⟨rfl, rfl, rfl, rfl, rfl, hf⟩
      · have gg : us 8 = .bool true := hR.2 8 (done_at hdo 8 (by rfl))
        refine guard_off (j := 8) (want := false) (d := 25) (by rfl) (by rfl) gg (by rfl) ?_
        exact hK undef _ (flat_mark (hR.1) (fun _ _ h => h) hR.2 rfl)
      · have gg : us 8 = .bool true := hR.2 8 (done_at hdo 8 (by rfl))
        refine guard_off (j := 8) (want := false) (d := 25) (by rfl) (by rfl) gg (by rfl) ?_
        exact hK undef _ (flat_mark (hR.1) (fun _ _ h => h) hR.2 rfl)
      · have gg : us 8 = .bool false := hR.2 8 (done_at hdo 8 (by rfl))
        have s1 : b0.tmps.getD 1 undef = .int .i64 P := hoth 1 (by rfl)
        clear hslot hoth hdo hcl hLi
        refine guard_on (j := 8) (want := false) (d := 25) (by rfl) (by rfl) gg ?_
        go_simp
        exact hK _ _ (flat_mark (hR.1) (fun _ _ h => h) hR.2 rfl)
      · have gg : us 8 = .bool false := hR.2 8 (done_at hdo 8 (by rfl))
        have s1 : b0.tmps.getD 1 undef = .int .i64 P := hoth 1 (by rfl)
        clear hslot hoth hdo hcl hLi
        refine guard_on (j := 8) (want := false) (d := 25) (by rfl) (by rfl) gg ?_
        go_simp
        exact hK _ _ (flat_mark (hR.1) (fun _ _ h => h) hR.2 rfl)
      · have gg : us 8 = .bool false := hR.2 8 (done_at hdo 8 (by rfl))
        have s1 : b0.tmps.getD 1 undef = .int .i64 (m : Int) := hoth 1 (by rfl)
        clear hslot hoth hdo hcl hLi
        refine guard_on (j := 8) (want := false) (d := 25) (by rfl) (by rfl) gg ?_
        go_simp
        exact hK _ _ (flat_mark (hR.1) (fun _ _ h => h) hR.2 rfl)
    · intro b0 us wz L hslot hoth hLi hR hcl hdo K hK
      rcases HL.out with ⟨rfl, rfl, hf⟩ | ⟨rfl, rfl, rfl, hf⟩ | ⟨rfl, rfl, rfl, rfl, hf⟩ | ⟨rfl, rfl, rfl, rfl, hf⟩ | ⟨rfl, rfl, rfl, rfl, rfl, hf⟩
      · have gg : us 8 = .bool true := hR.2 8 (done_at hdo 8 (by rfl))
        refine guard_off (j := 8) (want := false) (d := 25) (by rfl) (by rfl) gg (by rfl) ?_
        exact hK undef _ (flat_mark (hR.1) (fun _ _ h => h) hR.2 rfl)
      · have gg : us 8 = .bool true := hR.2 8 (done_at hdo 8 (by rfl))
        refine guard_off (j := 8) (want := false) (d := 25) (by rfl) (by rfl) gg (by rfl) ?_
        exact hK undef _ (flat_mark (hR.1) (fun _ _ h => h) hR.2 rfl)
      · have gg : us 8 = .bool false := hR.2 8 (done_at hdo 8 (by rfl))
        have s0 : b0.tmps.getD 0 undef = .slice (some p0) n cap := hoth 0 (by rfl)
        clear hslot hoth hdo hcl hLi
        refine guard_on (j := 8) (want := false) (d := 25) (by rfl) (by rfl) gg ?_
        go_simp
        exact hK _ _ (flat_mark (hR.1) (fun _ _ h => h) hR.2 rfl)
      · have gg : us 8 = .bool false := hR.2 8 (done_at hdo 8 (by rfl))
        have s0 : b0.tmps.getD 0 undef = .slice (some p0) n cap := hoth 0 (by rfl)
        clear hslot hoth hdo hcl hLi
        refine guard_on (j := 8) (want := false) (d := 25) (by rfl) (by rfl) gg ?_
        go_simp
        exact hK _ _ (flat_mark (hR.1) (fun _ _ h => h) hR.2 rfl)
      · have gg : us 8 = .bool false := hR.2 8 (done_at hdo 8 (by rfl))
        have s0 : b0.tmps.getD 0 undef = .slice (some p0) n cap := hoth 0 (by rfl)
        clear hslot hoth hdo hcl hLi
        refine guard_on (j := 8) (want := false) (d := 25) (by rfl) (by rfl) gg ?_
        go_simp
        exact hK _ _ (flat_mark (hR.1) (fun _ _ h => h) hR.2 rfl)
    · intro b0 us wz L hslot hoth hLi hR hcl hdo K hK
      rcases HL.out with ⟨rfl, rfl, hf⟩ | ⟨rfl, rfl, rfl, hf⟩ | ⟨rfl, rfl, rfl, rfl, hf⟩ | ⟨rfl, rfl, rfl, rfl, hf⟩ | ⟨rfl, rfl, rfl, rfl, rfl, hf⟩
      · have gg : us 8 = .bool true := hR.2 8 (done_at hdo 8 (by rfl))
        refine guard_off (j := 8) (want := false) (d := 25) (by rfl) (by rfl) gg (by rfl) ?_
        exact hK undef _ (flat_mark (hR.1) (fun _ _ h => h) hR.2 rfl)
      · have gg : us 8 = .bool true := hR.2 8 (done_at hdo 8 (by rfl))
        refine guard_off (j := 8) (want := false) (d := 25) (by rfl) (by rfl) gg (by rfl) ?_
        exact hK undef _ (flat_mark (hR.1) (fun _ _ h => h) hR.2 rfl)
      · have gg : us 8 = .bool false := hR.2 8 (done_at hdo 8 (by rfl))
        have s27 : b0.tmps.getD 27 undef = .slice (some p0) n cap := (hslot 10 27 (by rfl)).trans (hR.2 10 (done_at hdo 10 (by rfl)))
        clear hslot hoth hdo hcl hLi
        refine guard_on (j := 8) (want := false) (d := 25) (by rfl) (by rfl) gg ?_
        go_simp
        exact hK _ _ (flat_mark (hR.1) (fun _ _ h => h) hR.2 rfl)
      · have gg : us 8 = .bool false := hR.2 8 (done_at hdo 8 (by rfl))
        have s27 : b0.tmps.getD 27 undef = .slice (some p0) n cap := (hslot 10 27 (by rfl)).trans (hR.2 10 (done_at hdo 10 (by rfl)))
        clear hslot hoth hdo hcl hLi
        refine guard_on (j := 8) (want := false) (d := 25) (by rfl) (by rfl) gg ?_
        go_simp
        exact hK _ _ (flat_mark (hR.1) (fun _ _ h => h) hR.2 rfl)
      · have gg : us 8 = .bool false := hR.2 8 (done_at hdo 8 (by rfl))
        have s27 : b0.tmps.getD 27 undef = .slice (some p0) n cap := (hslot 10 27 (by rfl)).trans (hR.2 10 (done_at hdo 10 (by rfl)))
        clear hslot hoth hdo hcl hLi
        refine guard_on (j := 8) (want := false) (d := 25) (by rfl) (by rfl) gg ?_
        go_simp
        exact hK _ _ (flat_mark (hR.1) (fun _ _ h => h) hR.2 rfl)
    · intro b0 us wz L hslot hoth hLi hR hcl hdo K hK
      rcases HL.out with ⟨rfl, rfl, hf⟩ | ⟨rfl, rfl, rfl, hf⟩ | ⟨rfl, rfl, rfl, rfl, hf⟩ | ⟨rfl, rfl, rfl, rfl, hf⟩ | ⟨rfl, rfl, rfl, rfl, rfl, hf⟩
      · have gg : us 8 = .bool true := hR.2 8 (done_at hdo 8 (by rfl))
        refine guard_off (j := 8) (want := false) (d := 25) (by rfl) (by rfl) gg (by rfl) ?_
        exact hK undef _ (flat_mark (hR.1) (fun _ _ h => h) hR.2 rfl)
      · have gg : us 8 = .bool true := hR.2 8 (done_at hdo 8 (by rfl))
        refine guard_off (j := 8) (want := false) (d := 25) (by rfl) (by rfl) gg (by rfl) ?_
        exact hK undef _ (flat_mark (hR.1) (fun _ _ h => h) hR.2 rfl)
      · have gg : us 8 = .bool false := hR.2 8 (done_at hdo 8 (by rfl))
        have s28 : b0.tmps.getD 28 undef = .int .i64 (n : Int) := (hslot 11 28 (by rfl)).trans (hR.2 11 (done_at hdo 11 (by rfl)))
        have hw := wraps_pred n HN6.out.1
        clear hslot hoth hdo hcl hLi
        refine guard_on (j := 8) (want := false) (d := 25) (by rfl) (by rfl) gg ?_
        go_simp
        exact hK _ _ (flat_mark (hR.1) (fun _ _ h => h) hR.2 rfl)
      · have gg : us 8 = .bool false := hR.2 8 (done_at hdo 8 (by rfl))
        have s28 : b0.tmps.getD 28 undef = .int .i64 (n : Int) := (hslot 11 28 (by rfl)).trans (hR.2 11 (done_at hdo 11 (by rfl)))
        have hw := wraps_pred n HN6.out.1
        clear hslot hoth hdo hcl hLi
        refine guard_on (j := 8) (want := false) (d := 25) (by rfl) (by rfl) gg ?_
        go_simp
        exact hK _ _ (flat_mark (hR.1) (fun _ _ h => h) hR.2 rfl)
      · have gg : us 8 = .bool false := hR.2 8 (done_at hdo 8 (by rfl))
        have s28 : b0.tmps.getD 28 undef = .int .i64 (n : Int) := (hslot 11 28 (by rfl)).trans (hR.2 11 (done_at hdo 11 (by rfl)))
        have hw := wraps_pred n HN6.out.1
        clear hslot hoth hdo hcl hLi
        refine guard_on (j := 8) (want := false) (d := 25) (by rfl) (by rfl) gg ?_
        go_simp
        exact hK _ _ (flat_mark (hR.1) (fun _ _ h => h) hR.2 rfl)
    · intro b0 us wz L hslot hoth hLi hR hcl hdo K hK
      rcases HL.out with ⟨rfl, rfl, hf⟩ | ⟨rfl, rfl, rfl, hf⟩ | ⟨rfl, rfl, rfl, rfl, hf⟩ | ⟨rfl, rfl, rfl, rfl, hf⟩ | ⟨rfl, rfl, rfl, rfl, rfl, hf⟩
      · have gg : us 8 = .bool true := hR.2 8 (done_at hdo 8 (by rfl))
        refine guard_off (j := 8) (want := false) (d := 25) (by rfl) (by rfl) gg (by rfl) ?_
        exact hK undef _ (flat_mark (hR.1) (fun _ _ h => h) hR.2 rfl)
      · have gg : us 8 = .bool true := hR.2 8 (done_at hdo 8 (by rfl))
        refine guard_off (j := 8) (want := false) (d := 25) (by rfl) (by rfl) gg (by rfl) ?_
        exact hK undef _ (flat_mark (hR.1) (fun _ _ h => h) hR.2 rfl)
      · have gg : us 8 = .bool false := hR.2 8 (done_at hdo 8 (by rfl))
        have s26 : b0.tmps.getD 26 undef = .int .i64 P := (hslot 9 26 (by rfl)).trans (hR.2 9 (done_at hdo 9 (by rfl)))
        have s29 : b0.tmps.getD 29 undef = .int .i64 ((n : Int) - 1) := (hslot 12 29 (by rfl)).trans (hR.2 12 (done_at hdo 12 (by rfl)))
        clear hslot hoth hdo hcl hLi
        refine guard_on (j := 8) (want := false) (d := 25) (by rfl) (by rfl) gg ?_
        go_simp
        refine (CI.out wz).mono ?_
        rintro e w' ⟨rfl, rfl⟩
        exact hK _ _ (flat_mark hR.1 (fun _ _ h => h) hR.2 rfl)
      · have gg : us 8 = .bool false := hR.2 8 (done_at hdo 8 (by rfl))
        have s26 : b0.tmps.getD 26 undef = .int .i64 P := (hslot 9 26 (by rfl)).trans (hR.2 9 (done_at hdo 9 (by rfl)))
        have s29 : b0.tmps.getD 29 undef = .int .i64 ((n : Int) - 1) := (hslot 12 29 (by rfl)).trans (hR.2 12 (done_at hdo 12 (by rfl)))
        clear hslot hoth hdo hcl hLi
        refine guard_on (j := 8) (want := false) (d := 25) (by rfl) (by rfl) gg ?_
        go_simp
        refine (CI.out wz).mono ?_
        rintro e w' ⟨rfl, rfl⟩
        exact hK _ _ (flat_mark hR.1 (fun _ _ h => h) hR.2 rfl)
      · have gg : us 8 = .bool false := hR.2 8 (done_at hdo 8 (by rfl))
        have s26 : b0.tmps.getD 26 undef = .int .i64 (m : Int) := (hslot 9 26 (by rfl)).trans (hR.2 9 (done_at hdo 9 (by rfl)))
        have s29 : b0.tmps.getD 29 undef = .int .i64 ((n : Int) - 1) := (hslot 12 29 (by rfl)).trans (hR.2 12 (done_at hdo 12 (by rfl)))
        clear hslot hoth hdo hcl hLi
        refine guard_on (j := 8) (want := false) (d := 25) (by rfl) (by rfl) gg ?_
        go_simp
        refine (CI.out wz).mono ?_
        rintro e w' ⟨rfl, rfl⟩
        exact hK _ _ (flat_mark hR.1 (fun _ _ h => h) hR.2 rfl)
    · intro b0 us wz L hslot hoth hLi hR hcl hdo K hK
      rcases HL.out with ⟨rfl, rfl, hf⟩ | ⟨rfl, rfl, rfl, hf⟩ | ⟨rfl, rfl, rfl, rfl, hf⟩ | ⟨rfl, rfl, rfl, rfl, hf⟩ | ⟨rfl, rfl, rfl, rfl, rfl, hf⟩
      · have gg : us 8 = .bool true := hR.2 8 (done_at hdo 8 (by rfl))
        refine guard_off (j := 8) (want := false) (d := 25) (by rfl) (by rfl) gg (by rfl) ?_
        exact hK undef _ (flat_mark (hR.1) (fun _ _ h => h) hR.2 rfl)
      · have gg : us 8 = .bool true := hR.2 8 (done_at hdo 8 (by rfl))
        refine guard_off (j := 8) (want := false) (d := 25) (by rfl) (by rfl) gg (by rfl) ?_
        exact hK undef _ (flat_mark (hR.1) (fun _ _ h => h) hR.2 rfl)
      · have gg : us 8 = .bool false := hR.2 8 (done_at hdo 8 (by rfl))
        have s30 : b0.tmps.getD 30 undef = .bool false := (hslot 13 30 (by rfl)).trans (hR.2 13 (done_at hdo 13 (by rfl)))
        clear hslot hoth hdo hcl hLi
        refine guard_on (j := 8) (want := false) (d := 25) (by rfl) (by rfl) gg ?_
        go_simp
        exact hK _ _ (flat_mark (hR.1) (fun _ _ h => h) hR.2 rfl)
      · have gg : us 8 = .bool false := hR.2 8 (done_at hdo 8 (by rfl))
        have s30 : b0.tmps.getD 30 undef = .bool true := (hslot 13 30 (by rfl)).trans (hR.2 13 (done_at hdo 13 (by rfl)))
        clear hslot hoth hdo hcl hLi
        refine guard_on (j := 8) (want := false) (d := 25) (by rfl) (by rfl) gg ?_
        go_simp
        exact hK _ _ (flat_mark (hR.1) (fun _ _ h => h) hR.2 rfl)
      · have gg : us 8 = .bool false := hR.2 8 (done_at hdo 8 (by rfl))
        have s30 : b0.tmps.getD 30 undef = .bool true := (hslot 13 30 (by rfl)).trans (hR.2 13 (done_at hdo 13 (by rfl)))
        clear hslot hoth hdo hcl hLi
        refine guard_on (j := 8) (want := false) (d := 25) (by rfl) (by rfl) gg ?_
        go_simp
        exact hK _ _ (flat_mark (hR.1) (fun _ _ h => h) hR.2 rfl)
    · intro b0 us wz L hslot hoth hLi hR hcl hdo K hK
      rcases HL.out with ⟨rfl, rfl, hf⟩ | ⟨rfl, rfl, rfl, hf⟩ | ⟨rfl, rfl, rfl, rfl, hf⟩ | ⟨rfl, rfl, rfl, rfl, hf⟩ | ⟨rfl, rfl, rfl, rfl, rfl, hf⟩
      · have s25 : b0.tmps.getD 25 undef = .bool true := (hslot 8 25 (by rfl)).trans (hR.2 8 (done_at hdo 8 (by rfl)))
        have s31 : b0.tmps.getD 31 undef = undef := (hslot 14 31 (by rfl)).trans (hR.2 14 (done_at hdo 14 (by rfl)))
        clear hslot hoth hdo hcl hLi
        refine guard_none (by rfl) ?_
        go_simp
        exact hK _ _ (flat_mark (hR.1) (fun _ _ h => h) hR.2 rfl)
      · have s25 : b0.tmps.getD 25 undef = .bool true := (hslot 8 25 (by rfl)).trans (hR.2 8 (done_at hdo 8 (by rfl)))
        have s31 : b0.tmps.getD 31 undef = undef := (hslot 14 31 (by rfl)).trans (hR.2 14 (done_at hdo 14 (by rfl)))
        clear hslot hoth hdo hcl hLi
        refine guard_none (by rfl) ?_
        go_simp
        exact hK _ _ (flat_mark (hR.1) (fun _ _ h => h) hR.2 rfl)
      · have s25 : b0.tmps.getD 25 undef = .bool false := (hslot 8 25 (by rfl)).trans (hR.2 8 (done_at hdo 8 (by rfl)))
        have s31 : b0.tmps.getD 31 undef = .bool true := (hslot 14 31 (by rfl)).trans (hR.2 14 (done_at hdo 14 (by rfl)))
        clear hslot hoth hdo hcl hLi
        refine guard_none (by rfl) ?_
        go_simp
        exact hK _ _ (flat_mark (hR.1) (fun _ _ h => h) hR.2 rfl)
      · have s25 : b0.tmps.getD 25 undef = .bool false := (hslot 8 25 (by rfl)).trans (hR.2 8 (done_at hdo 8 (by rfl)))
        have s31 : b0.tmps.getD 31 undef = .bool false := (hslot 14 31 (by rfl)).trans (hR.2 14 (done_at hdo 14 (by rfl)))
        clear hslot hoth hdo hcl hLi
        refine guard_none (by rfl) ?_
        go_simp
        exact hK _ _ (flat_mark (hR.1) (fun _ _ h => h) hR.2 rfl)
      · have s25 : b0.tmps.getD 25 undef = .bool false := (hslot 8 25 (by rfl)).trans (hR.2 8 (done_at hdo 8 (by rfl)))
        have s31 : b0.tmps.getD 31 undef = .bool false := (hslot 14 31 (by rfl)).trans (hR.2 14 (done_at hdo 14 (by rfl)))
        clear hslot hoth hdo hcl hLi
        refine guard_none (by rfl) ?_
        go_simp
        exact hK _ _ (flat_mark (hR.1) (fun _ _ h => h) hR.2 rfl)
    · intro b0 us wz L hslot hoth hLi hR hcl hdo K hK
      rcases HL.out with ⟨rfl, rfl, hf⟩ | ⟨rfl, rfl, rfl, hf⟩ | ⟨rfl, rfl, rfl, rfl, hf⟩ | ⟨rfl, rfl, rfl, rfl, hf⟩ | ⟨rfl, rfl, rfl, rfl, rfl, hf⟩
      · have s32 : b0.tmps.getD 32 undef = .bool true := (hslot 15 32 (by rfl)).trans (hR.2 15 (done_at hdo 15 (by rfl)))
        clear hslot hoth hdo hcl hLi
        refine guard_none (by rfl) ?_
        go_simp
        exact hK _ _ (flat_mark (hR.1) (fun _ _ h => h) hR.2 rfl)
      · have s32 : b0.tmps.getD 32 undef = .bool true := (hslot 15 32 (by rfl)).trans (hR.2 15 (done_at hdo 15 (by rfl)))
        clear hslot hoth hdo hcl hLi
        refine guard_none (by rfl) ?_
        go_simp
        exact hK _ _ (flat_mark (hR.1) (fun _ _ h => h) hR.2 rfl)
      · have s32 : b0.tmps.getD 32 undef = .bool true := (hslot 15 32 (by rfl)).trans (hR.2 15 (done_at hdo 15 (by rfl)))
        clear hslot hoth hdo hcl hLi
        refine guard_none (by rfl) ?_
        go_simp
        exact hK _ _ (flat_mark (hR.1) (fun _ _ h => h) hR.2 rfl)
      · have s32 : b0.tmps.getD 32 undef = .bool false := (hslot 15 32 (by rfl)).trans (hR.2 15 (done_at hdo 15 (by rfl)))
        clear hslot hoth hdo hcl hLi
        refine guard_none (by rfl) ?_
        go_simp
        exact hK _ _ (flat_mark (hR.1) (fun _ _ h => h) hR.2 rfl)
      · have s32 : b0.tmps.getD 32 undef = .bool false := (hslot 15 32 (by rfl)).trans (hR.2 15 (done_at hdo 15 (by rfl)))
        clear hslot hoth hdo hcl hLi
        refine guard_none (by rfl) ?_
        go_simp
        exact hK _ _ (flat_mark (hR.1) (fun _ _ h => h) hR.2 rfl)
    · intro b0 us wz L hslot hoth hLi hR hcl hdo K hK
      rcases HL.out with ⟨rfl, rfl, hf⟩ | ⟨rfl, rfl, rfl, hf⟩ | ⟨rfl, rfl, rfl, rfl, hf⟩ | ⟨rfl, rfl, rfl, rfl, hf⟩ | ⟨rfl, rfl, rfl, rfl, rfl, hf⟩
      · have gg : us 16 = .bool true := hR.2 16 (done_at hdo 16 (by rfl))
        refine guard_off (j := 16) (want := false) (d := 33) (by rfl) (by rfl) gg (by rfl) ?_
        exact hK undef _ (flat_mark (hR.1) (fun _ _ h => h) hR.2 rfl)
      · have gg : us 16 = .bool true := hR.2 16 (done_at hdo 16 (by rfl))
        refine guard_off (j := 16) (want := false) (d := 33) (by rfl) (by rfl) gg (by rfl) ?_
        exact hK undef _ (flat_mark (hR.1) (fun _ _ h => h) hR.2 rfl)
      · have gg : us 16 = .bool true := hR.2 16 (done_at hdo 16 (by rfl))
        refine guard_off (j := 16) (want := false) (d := 33) (by rfl) (by rfl) gg (by rfl) ?_
        exact hK undef _ (flat_mark (hR.1) (fun _ _ h => h) hR.2 rfl)
      · have gg : us 16 = .bool false := hR.2 16 (done_at hdo 16 (by rfl))
        have s5 : b0.tmps.getD 5 undef = .pointer (some ⟨w.heap.size, 0, none⟩) := hoth 5 (by rfl)
        clear hslot hoth hdo hcl hLi
        refine guard_on (j := 16) (want := false) (d := 33) (by rfl) (by rfl) gg ?_
        go_simp
        exact hK _ _ (flat_mark (hR.1) (fun _ _ h => h) hR.2 rfl)
      · have gg : us 16 = .bool false := hR.2 16 (done_at hdo 16 (by rfl))
        have s5 : b0.tmps.getD 5 undef = .pointer (some ⟨w.heap.size, 0, none⟩) := hoth 5 (by rfl)
        clear hslot hoth hdo hcl hLi
        refine guard_on (j := 16) (want := false) (d := 33) (by rfl) (by rfl) gg ?_
        go_simp
        exact hK _ _ (flat_mark (hR.1) (fun _ _ h => h) hR.2 rfl)
    · intro b0 us wz L hslot hoth hLi hR hcl hdo K hK
      rcases HL.out with ⟨rfl, rfl, hf⟩ | ⟨rfl, rfl, rfl, hf⟩ | ⟨rfl, rfl, rfl, rfl, hf⟩ | ⟨rfl, rfl, rfl, rfl, hf⟩ | ⟨rfl, rfl, rfl, rfl, rfl, hf⟩
      · have gg : us 16 = .bool true := hR.2 16 (done_at hdo 16 (by rfl))
        refine guard_off (j := 16) (want := false) (d := 33) (by rfl) (by rfl) gg (by rfl) ?_
        exact hK undef _ (flat_mark (hR.1) (fun _ _ h => h) hR.2 rfl)
      · have gg : us 16 = .bool true := hR.2 16 (done_at hdo 16 (by rfl))
        refine guard_off (j := 16) (want := false) (d := 33) (by rfl) (by rfl) gg (by rfl) ?_
        exact hK undef _ (flat_mark (hR.1) (fun _ _ h => h) hR.2 rfl)
      · have gg : us 16 = .bool true := hR.2 16 (done_at hdo 16 (by rfl))
        refine guard_off (j := 16) (want := false) (d := 33) (by rfl) (by rfl) gg (by rfl) ?_
        exact hK undef _ (flat_mark (hR.1) (fun _ _ h => h) hR.2 rfl)
      · have gg : us 16 = .bool false := hR.2 16 (done_at hdo 16 (by rfl))
        have s34 : b0.tmps.getD 34 undef = .pointer (some ⟨w.heap.size, 1, none⟩) := (hslot 17 34 (by rfl)).trans (hR.2 17 (done_at hdo 17 (by rfl)))
        have t0 := (hR.1.mv.tap).c0
        have t1 := (hR.1.mv.tap).c1
        have t2 := (hR.1.mv.tap).c2
        have t3 := (hR.1.mv.tap).c3
        have t4 := (hR.1.mv.tap).c4
        have t5 := (hR.1.mv.tap).c5
        clear hslot hoth hdo hcl hLi
        refine guard_on (j := 16) (want := false) (d := 33) (by rfl) (by rfl) gg ?_
        go_simp
        exact hK _ _ (flat_mark (hR.1) (fun _ _ h => h) hR.2 rfl)
      · have gg : us 16 = .bool false := hR.2 16 (done_at hdo 16 (by rfl))
        have s34 : b0.tmps.getD 34 undef = .pointer (some ⟨w.heap.size, 1, none⟩) := (hslot 17 34 (by rfl)).trans (hR.2 17 (done_at hdo 17 (by rfl)))
        have t0 := (hR.1.mv.tap).c0
        have t1 := (hR.1.mv.tap).c1
        have t2 := (hR.1.mv.tap).c2
        have t3 := (hR.1.mv.tap).c3
        have t4 := (hR.1.mv.tap).c4
        have t5 := (hR.1.mv.tap).c5
        clear hslot hoth hdo hcl hLi
        refine guard_on (j := 16) (want := false) (d := 33) (by rfl) (by rfl) gg ?_
        go_simp
        exact hK _ _ (flat_mark (hR.1) (fun _ _ h => h) hR.2 rfl)
    · intro b0 us wz L hslot hoth hLi hR hcl hdo K hK
      rcases HL.out with ⟨rfl, rfl, hf⟩ | ⟨rfl, rfl, rfl, hf⟩ | ⟨rfl, rfl, rfl, rfl, hf⟩ | ⟨rfl, rfl, rfl, rfl, hf⟩ | ⟨rfl, rfl, rfl, rfl, rfl, hf⟩
      · have gg : us 16 = .bool true := hR.2 16 (done_at hdo 16 (by rfl))
        refine guard_off (j := 16) (want := false) (d := 33) (by rfl) (by rfl) gg (by rfl) ?_
        exact hK undef _ (flat_mark (hR.1) (fun _ _ h => h) hR.2 rfl)
      · have gg : us 16 = .bool true := hR.2 16 (done_at hdo 16 (by rfl))
        refine guard_off (j := 16) (want := false) (d := 33) (by rfl) (by rfl) gg (by rfl) ?_
        exact hK undef _ (flat_mark (hR.1) (fun _ _ h => h) hR.2 rfl)
      · have gg : us 16 = .bool true := hR.2 16 (done_at hdo 16 (by rfl))
        refine guard_off (j := 16) (want := false) (d := 33) (by rfl) (by rfl) gg (by rfl) ?_
        exact hK undef _ (flat_mark (hR.1) (fun _ _ h => h) hR.2 rfl)
      · have gg : us 16 = .bool false := hR.2 16 (done_at hdo 16 (by rfl))
        have s0 : b0.tmps.getD 0 undef = .slice (some p0) n cap := hoth 0 (by rfl)
        clear hslot hoth hdo hcl hLi
        refine guard_on (j := 16) (want := false) (d := 33) (by rfl) (by rfl) gg ?_
        go_simp
        exact hK _ _ (flat_mark (hR.1) (fun _ _ h => h) hR.2 rfl)
      · have gg : us 16 = .bool false := hR.2 16 (done_at hdo 16 (by rfl))
        have s0 : b0.tmps.getD 0 undef = .slice (some p0) n cap := hoth 0 (by rfl)
        clear hslot hoth hdo hcl hLi
        refine guard_on (j := 16) (want := false) (d := 33) (by rfl) (by rfl) gg ?_
        go_simp
        exact hK _ _ (flat_mark (hR.1) (fun _ _ h => h) hR.2 rfl)
    · intro b0 us wz L hslot hoth hLi hR hcl hdo K hK
      rcases HL.out with ⟨rfl, rfl, hf⟩ | ⟨rfl, rfl, rfl, hf⟩ | ⟨rfl, rfl, rfl, rfl, hf⟩ | ⟨rfl, rfl, rfl, rfl, hf⟩ | ⟨rfl, rfl, rfl, rfl, rfl, hf⟩
      · have gg : us 16 = .bool true := hR.2 16 (done_at hdo 16 (by rfl))
        refine guard_off (j := 16) (want := false) (d := 33) (by rfl) (by rfl) gg (by rfl) ?_
        exact hK undef _ (flat_mark (hR.1) (fun _ _ h => h) hR.2 rfl)
      · have gg : us 16 = .bool true := hR.2 16 (done_at hdo 16 (by rfl))
        refine guard_off (j := 16) (want := false) (d := 33) (by rfl) (by rfl) gg (by rfl) ?_
        exact hK undef _ (flat_mark (hR.1) (fun _ _ h => h) hR.2 rfl)
      · have gg : us 16 = .bool true := hR.2 16 (done_at hdo 16 (by rfl))
        refine guard_off (j := 16) (want := false) (d := 33) (by rfl) (by rfl) gg (by rfl) ?_
        exact hK undef _ (flat_mark (hR.1) (fun _ _ h => h) hR.2 rfl)
      · have gg : us 16 = .bool false := hR.2 16 (done_at hdo 16 (by rfl))
        have s36 : b0.tmps.getD 36 undef = .slice (some p0) n cap := (hslot 19 36 (by rfl)).trans (hR.2 19 (done_at hdo 19 (by rfl)))
        clear hslot hoth hdo hcl hLi
        refine guard_on (j := 16) (want := false) (d := 33) (by rfl) (by rfl) gg ?_
        go_simp
        exact hK _ _ (flat_mark (hR.1) (fun _ _ h => h) hR.2 rfl)
      · have gg : us 16 = .bool false := hR.2 16 (done_at hdo 16 (by rfl))
        have s36 : b0.tmps.getD 36 undef = .slice (some p0) n cap := (hslot 19 36 (by rfl)).trans (hR.2 19 (done_at hdo 19 (by rfl)))
        clear hslot hoth hdo hcl hLi
        refine guard_on (j := 16) (want := false) (d := 33) (by rfl) (by rfl) gg ?_
        go_simp
        exact hK _ _ (flat_mark (hR.1) (fun _ _ h => h) hR.2 rfl)
    · intro b0 us wz L hslot hoth hLi hR hcl hdo K hK
      rcases HL.out with ⟨rfl, rfl, hf⟩ | ⟨rfl, rfl, rfl, hf⟩ | ⟨rfl, rfl, rfl, rfl, hf⟩ | ⟨rfl, rfl, rfl, rfl, hf⟩ | ⟨rfl, rfl, rfl, rfl, rfl, hf⟩
      · have gg : us 16 = .bool true := hR.2 16 (done_at hdo 16 (by rfl))
        refine guard_off (j := 16) (want := false) (d := 33) (by rfl) (by rfl) gg (by rfl) ?_
        exact hK undef _ (flat_mark (hR.1) (fun _ _ h => h) hR.2 rfl)
      · have gg : us 16 = .bool true := hR.2 16 (done_at hdo 16 (by rfl))
        refine guard_off (j := 16) (want := false) (d := 33) (by rfl) (by rfl) gg (by rfl) ?_
        exact hK undef _ (flat_mark (hR.1) (fun _ _ h => h) hR.2 rfl)
      · have gg : us 16 = .bool true := hR.2 16 (done_at hdo 16 (by rfl))
        refine guard_off (j := 16) (want := false) (d := 33) (by rfl) (by rfl) gg (by rfl) ?_
        exact hK undef _ (flat_mark (hR.1) (fun _ _ h => h) hR.2 rfl)
      · have gg : us 16 = .bool false := hR.2 16 (done_at hdo 16 (by rfl))
        have s35 : b0.tmps.getD 35 undef = .int .i64 p := (hslot 18 35 (by rfl)).trans (hR.2 18 (done_at hdo 18 (by rfl)))
        have s37 : b0.tmps.getD 37 undef = .int .i64 (n : Int) := (hslot 20 37 (by rfl)).trans (hR.2 20 (done_at hdo 20 (by rfl)))
        have hpn : (n : Int) ≤ p := hf.out
        clear hslot hoth hdo hcl hLi
        refine guard_on (j := 16) (want := false) (d := 33) (by rfl) (by rfl) gg ?_
        go_simp
        exact hK _ _ (flat_mark (hR.1) (fun _ _ h => h) hR.2 rfl)
      · have gg : us 16 = .bool false := hR.2 16 (done_at hdo 16 (by rfl))
        have s35 : b0.tmps.getD 35 undef = .int .i64 p := (hslot 18 35 (by rfl)).trans (hR.2 18 (done_at hdo 18 (by rfl)))
        have s37 : b0.tmps.getD 37 undef = .int .i64 (n : Int) := (hslot 20 37 (by rfl)).trans (hR.2 20 (done_at hdo 20 (by rfl)))
        have hpn : ¬ ((n : Int) ≤ p) := by have := hf.out.2.1; omega
        clear hslot hoth hdo hcl hLi
        refine guard_on (j := 16) (want := false) (d := 33) (by rfl) (by rfl) gg ?_
        go_simp
        exact hK _ _ (flat_mark (hR.1) (fun _ _ h => h) hR.2 rfl)
    · intro b0 us wz L hslot hoth hLi hR hcl hdo K hK
      rcases HL.out with ⟨rfl, rfl, hf⟩ | ⟨rfl, rfl, rfl, hf⟩ | ⟨rfl, rfl, rfl, rfl, hf⟩ | ⟨rfl, rfl, rfl, rfl, hf⟩ | ⟨rfl, rfl, rfl, rfl, rfl, hf⟩
      · have s33 : b0.tmps.getD 33 undef = .bool true := (hslot 16 33 (by rfl)).trans (hR.2 16 (done_at hdo 16 (by rfl)))
        have s38 : b0.tmps.getD 38 undef = undef := (hslot 21 38 (by rfl)).trans (hR.2 21 (done_at hdo 21 (by rfl)))
        clear hslot hoth hdo hcl hLi
        refine guard_none (by rfl) ?_
        go_simp
        exact hK _ _ (flat_mark (hR.1) (fun _ _ h => h) hR.2 rfl)
      · have s33 : b0.tmps.getD 33 undef = .bool true := (hslot 16 33 (by rfl)).trans (hR.2 16 (done_at hdo 16 (by rfl)))
        have s38 : b0.tmps.getD 38 undef = undef := (hslot 21 38 (by rfl)).trans (hR.2 21 (done_at hdo 21 (by rfl)))
        clear hslot hoth hdo hcl hLi
        refine guard_none (by rfl) ?_
        go_simp
        exact hK _ _ (flat_mark (hR.1) (fun _ _ h => h) hR.2 rfl)
      · have s33 : b0.tmps.getD 33 undef = .bool true := (hslot 16 33 (by rfl)).trans (hR.2 16 (done_at hdo 16 (by rfl)))
        have s38 : b0.tmps.getD 38 undef = undef := (hslot 21 38 (by rfl)).trans (hR.2 21 (done_at hdo 21 (by rfl)))
        clear hslot hoth hdo hcl hLi
        refine guard_none (by rfl) ?_
        go_simp
        exact hK _ _ (flat_mark (hR.1) (fun _ _ h => h) hR.2 rfl)
      · have s33 : b0.tmps.getD 33 undef = .bool false := (hslot 16 33 (by rfl)).trans (hR.2 16 (done_at hdo 16 (by rfl)))
        have s38 : b0.tmps.getD 38 undef = .bool true := (hslot 21 38 (by rfl)).trans (hR.2 21 (done_at hdo 21 (by rfl)))
        clear hslot hoth hdo hcl hLi
        refine guard_none (by rfl) ?_
        go_simp
        exact hK _ _ (flat_mark (hR.1) (fun _ _ h => h) hR.2 rfl)
      · have s33 : b0.tmps.getD 33 undef = .bool false := (hslot 16 33 (by rfl)).trans (hR.2 16 (done_at hdo 16 (by rfl)))
        have s38 : b0.tmps.getD 38 undef = .bool false := (hslot 21 38 (by rfl)).trans (hR.2 21 (done_at hdo 21 (by rfl)))
        clear hslot hoth hdo hcl hLi
        refine guard_none (by rfl) ?_
        go_simp
        exact hK _ _ (flat_mark (hR.1) (fun _ _ h => h) hR.2 rfl)
    · intro b0 us wz L hslot hoth hLi hR hcl hdo K hK
      rcases HL.out with ⟨rfl, rfl, hf⟩ | ⟨rfl, rfl, rfl, hf⟩ | ⟨rfl, rfl, rfl, rfl, hf⟩ | ⟨rfl, rfl, rfl, rfl, hf⟩ | ⟨rfl, rfl, rfl, rfl, rfl, hf⟩
      · have s39 : b0.tmps.getD 39 undef = .bool true := (hslot 22 39 (by rfl)).trans (hR.2 22 (done_at hdo 22 (by rfl)))
        clear hslot hoth hdo hcl hLi
        refine guard_none (by rfl) ?_
        go_simp
        exact hK _ _ (flat_mark (hR.1) (fun _ _ h => h) hR.2 rfl)
      · have s39 : b0.tmps.getD 39 undef = .bool true := (hslot 22 39 (by rfl)).trans (hR.2 22 (done_at hdo 22 (by rfl)))
        clear hslot hoth hdo hcl hLi
        refine guard_none (by rfl) ?_
        go_simp
        exact hK _ _ (flat_mark (hR.1) (fun _ _ h => h) hR.2 rfl)
      · have s39 : b0.tmps.getD 39 undef = .bool true := (hslot 22 39 (by rfl)).trans (hR.2 22 (done_at hdo 22 (by rfl)))
        clear hslot hoth hdo hcl hLi
        refine guard_none (by rfl) ?_
        go_simp
        exact hK _ _ (flat_mark (hR.1) (fun _ _ h => h) hR.2 rfl)
      · have s39 : b0.tmps.getD 39 undef = .bool true := (hslot 22 39 (by rfl)).trans (hR.2 22 (done_at hdo 22 (by rfl)))
        clear hslot hoth hdo hcl hLi
        refine guard_none (by rfl) ?_
        go_simp
        exact hK _ _ (flat_mark (hR.1) (fun _ _ h => h) hR.2 rfl)
      · have s39 : b0.tmps.getD 39 undef = .bool false := (hslot 22 39 (by rfl)).trans (hR.2 22 (done_at hdo 22 (by rfl)))
        clear hslot hoth hdo hcl hLi
        refine guard_none (by rfl) ?_
        go_simp
        exact hK _ _ (flat_mark (hR.1) (fun _ _ h => h) hR.2 rfl)
    · intro b0 us wz L hslot hoth hLi hR hcl hdo K hK
      rcases HL.out with ⟨rfl, rfl, hf⟩ | ⟨rfl, rfl, rfl, hf⟩ | ⟨rfl, rfl, rfl, rfl, hf⟩ | ⟨rfl, rfl, rfl, rfl, hf⟩ | ⟨rfl, rfl, rfl, rfl, rfl, hf⟩
      · have gg : us 23 = .bool true := hR.2 23 (done_at hdo 23 (by rfl))
        refine guard_off (j := 23) (want := false) (d := 40) (by rfl) (by rfl) gg (by rfl) ?_
        exact hK undef _ (flat_mark (hR.1) (fun _ _ h => h) hR.2 rfl)
      · have gg : us 23 = .bool true := hR.2 23 (done_at hdo 23 (by rfl))
        refine guard_off (j := 23) (want := false) (d := 40) (by rfl) (by rfl) gg (by rfl) ?_
        exact hK undef _ (flat_mark (hR.1) (fun _ _ h => h) hR.2 rfl)
      · have gg : us 23 = .bool true := hR.2 23 (done_at hdo 23 (by rfl))
        refine guard_off (j := 23) (want := false) (d := 40) (by rfl) (by rfl) gg (by rfl) ?_
        exact hK undef _ (flat_mark (hR.1) (fun _ _ h => h) hR.2 rfl)
      · have gg : us 23 = .bool true := hR.2 23 (done_at hdo 23 (by rfl))
        refine guard_off (j := 23) (want := false) (d := 40) (by rfl) (by rfl) gg (by rfl) ?_
        exact hK undef _ (flat_mark (hR.1) (fun _ _ h => h) hR.2 rfl)
      · have gg : us 23 = .bool false := hR.2 23 (done_at hdo 23 (by rfl))
        have s0 : b0.tmps.getD 0 undef = .slice (some p0) n cap := hoth 0 (by rfl)
        clear hslot hoth hdo hcl hLi
        refine guard_on (j := 23) (want := false) (d := 40) (by rfl) (by rfl) gg ?_
        go_simp
        exact hK _ _ (flat_mark (hR.1) (fun _ _ h => h) hR.2 rfl)
    · intro b0 us wz L hslot hoth hLi hR hcl hdo K hK
      rcases HL.out with ⟨rfl, rfl, hf⟩ | ⟨rfl, rfl, rfl, hf⟩ | ⟨rfl, rfl, rfl, rfl, hf⟩ | ⟨rfl, rfl, rfl, rfl, hf⟩ | ⟨rfl, rfl, rfl, rfl, rfl, hf⟩
      · have gg : us 23 = .bool true := hR.2 23 (done_at hdo 23 (by rfl))
        refine guard_off (j := 23) (want := false) (d := 40) (by rfl) (by rfl) gg (by rfl) ?_
        exact hK undef _ (flat_mark (hR.1) (fun _ _ h => h) hR.2 rfl)
      · have gg : us 23 = .bool true := hR.2 23 (done_at hdo 23 (by rfl))
        refine guard_off (j := 23) (want := false) (d := 40) (by rfl) (by rfl) gg (by rfl) ?_
        exact hK undef _ (flat_mark (hR.1) (fun _ _ h => h) hR.2 rfl)
      · have gg : us 23 = .bool true := hR.2 23 (done_at hdo 23 (by rfl))
        refine guard_off (j := 23) (want := false) (d := 40) (by rfl) (by rfl) gg (by rfl) ?_
        exact hK undef _ (flat_mark (hR.1) (fun _ _ h => h) hR.2 rfl)
      · have gg : us 23 = .bool true := hR.2 23 (done_at hdo 23 (by rfl))
        refine guard_off (j := 23) (want := false) (d := 40) (by rfl) (by rfl) gg (by rfl) ?_
        exact hK undef _ (flat_mark (hR.1) (fun _ _ h => h) hR.2 rfl)
      · have gg : us 23 = .bool false := hR.2 23 (done_at hdo 23 (by rfl))
        have s1 : b0.tmps.getD 1 undef = .int .i64 (m : Int) := hoth 1 (by rfl)
        clear hslot hoth hdo hcl hLi
        refine guard_on (j := 23) (want := false) (d := 40) (by rfl) (by rfl) gg ?_
        go_simp
        exact hK _ _ (flat_mark (hR.1) (fun _ _ h => h) hR.2 rfl)
    · intro b0 us wz L hslot hoth hLi hR hcl hdo K hK
      rcases HL.out with ⟨rfl, rfl, hf⟩ | ⟨rfl, rfl, rfl, hf⟩ | ⟨rfl, rfl, rfl, rfl, hf⟩ | ⟨rfl, rfl, rfl, rfl, hf⟩ | ⟨rfl, rfl, rfl, rfl, rfl, hf⟩
      · have gg : us 23 = .bool true := hR.2 23 (done_at hdo 23 (by rfl))
        refine guard_off (j := 23) (want := false) (d := 40) (by rfl) (by rfl) gg (by rfl) ?_
        exact hK undef _ (flat_mark (hR.1) (fun _ _ h => h) hR.2 rfl)
      · have gg : us 23 = .bool true := hR.2 23 (done_at hdo 23 (by rfl))
        refine guard_off (j := 23) (want := false) (d := 40) (by rfl) (by rfl) gg (by rfl) ?_
        exact hK undef _ (flat_mark (hR.1) (fun _ _ h => h) hR.2 rfl)
      · have gg : us 23 = .bool true := hR.2 23 (done_at hdo 23 (by rfl))
        refine guard_off (j := 23) (want := false) (d := 40) (by rfl) (by rfl) gg (by rfl) ?_
        exact hK undef _ (flat_mark (hR.1) (fun _ _ h => h) hR.2 rfl)
      · have gg : us 23 = .bool true := hR.2 23 (done_at hdo 23 (by rfl))
        refine guard_off (j := 23) (want := false) (d := 40) (by rfl) (by rfl) gg (by rfl) ?_
        exact hK undef _ (flat_mark (hR.1) (fun _ _ h => h) hR.2 rfl)
      · have gg : us 23 = .bool false := hR.2 23 (done_at hdo 23 (by rfl))
        have s41 : b0.tmps.getD 41 undef = .slice (some p0) n cap := (hslot 24 41 (by rfl)).trans (hR.2 24 (done_at hdo 24 (by rfl)))
        have s42 : b0.tmps.getD 42 undef = .int .i64 (m : Int) := (hslot 25 42 (by rfl)).trans (hR.2 25 (done_at hdo 25 (by rfl)))
        have hmn : m < n := hf.out.1
        have hcap0 : n ≤ cap := HN6.out.2
        have hq : p0.add m = qa := hf.out.2.2.1
        clear hslot hoth hdo hcl hLi
        refine guard_on (j := 23) (want := false) (d := 40) (by rfl) (by rfl) gg ?_
        go_simp
        exact hK _ _ (flat_mark (hR.1) (fun _ _ h => h) hR.2 rfl)
    · intro b0 us wz L hslot hoth hLi hR hcl hdo K hK
      rcases HL.out with ⟨rfl, rfl, hf⟩ | ⟨rfl, rfl, rfl, hf⟩ | ⟨rfl, rfl, rfl, rfl, hf⟩ | ⟨rfl, rfl, rfl, rfl, hf⟩ | ⟨rfl, rfl, rfl, rfl, rfl, hf⟩
      · have gg : us 23 = .bool true := hR.2 23 (done_at hdo 23 (by rfl))
        refine guard_off (j := 23) (want := false) (d := 40) (by rfl) (by rfl) gg (by rfl) ?_
        exact hK undef _ (flat_mark (hR.1) (fun _ _ h => h) hR.2 rfl)
      · have gg : us 23 = .bool true := hR.2 23 (done_at hdo 23 (by rfl))
        refine guard_off (j := 23) (want := false) (d := 40) (by rfl) (by rfl) gg (by rfl) ?_
        exact hK undef _ (flat_mark (hR.1) (fun _ _ h => h) hR.2 rfl)
      · have gg : us 23 = .bool true := hR.2 23 (done_at hdo 23 (by rfl))
        refine guard_off (j := 23) (want := false) (d := 40) (by rfl) (by rfl) gg (by rfl) ?_
        exact hK undef _ (flat_mark (hR.1) (fun _ _ h => h) hR.2 rfl)
      · have gg : us 23 = .bool true := hR.2 23 (done_at hdo 23 (by rfl))
        refine guard_off (j := 23) (want := false) (d := 40) (by rfl) (by rfl) gg (by rfl) ?_
        exact hK undef _ (flat_mark (hR.1) (fun _ _ h => h) hR.2 rfl)
      · have gg : us 23 = .bool false := hR.2 23 (done_at hdo 23 (by rfl))
        have s43 : b0.tmps.getD 43 undef = .pointer (some qa) := (hslot 26 43 (by rfl)).trans (hR.2 26 (done_at hdo 26 (by rfl)))
        clear hslot hoth hdo hcl hLi
        refine guard_on (j := 23) (want := false) (d := 40) (by rfl) (by rfl) gg ?_
        go_simp
        exact hK _ _ (flat_mark (hR.1) (fun _ _ h => h) hR.2 rfl)
    · intro b0 us wz L hslot hoth hLi hR hcl hdo K hK
      rcases HL.out with ⟨rfl, rfl, hf⟩ | ⟨rfl, rfl, rfl, hf⟩ | ⟨rfl, rfl, rfl, rfl, hf⟩ | ⟨rfl, rfl, rfl, rfl, hf⟩ | ⟨rfl, rfl, rfl, rfl, rfl, hf⟩
      · have gg : us 23 = .bool true := hR.2 23 (done_at hdo 23 (by rfl))
        refine guard_off (j := 23) (want := false) (d := 40) (by rfl) (by rfl) gg (by rfl) ?_
        exact hK undef _ (flat_mark (hR.1) (fun _ _ h => h) hR.2 rfl)
      · have gg : us 23 = .bool true := hR.2 23 (done_at hdo 23 (by rfl))
        refine guard_off (j := 23) (want := false) (d := 40) (by rfl) (by rfl) gg (by rfl) ?_
        exact hK undef _ (flat_mark (hR.1) (fun _ _ h => h) hR.2 rfl)
      · have gg : us 23 = .bool true := hR.2 23 (done_at hdo 23 (by rfl))
        refine guard_off (j := 23) (want := false) (d := 40) (by rfl) (by rfl) gg (by rfl) ?_
        exact hK undef _ (flat_mark (hR.1) (fun _ _ h => h) hR.2 rfl)
      · have gg : us 23 = .bool true := hR.2 23 (done_at hdo 23 (by rfl))
        refine guard_off (j := 23) (want := false) (d := 40) (by rfl) (by rfl) gg (by rfl) ?_
        exact hK undef _ (flat_mark (hR.1) (fun _ _ h => h) hR.2 rfl)
      · have gg : us 23 = .bool false := hR.2 23 (done_at hdo 23 (by rfl))
        have s44 : b0.tmps.getD 44 undef = .pointer (some qa) := (hslot 27 44 (by rfl)).trans (hR.2 27 (done_at hdo 27 (by rfl)))
        have hc : wz.cell? qa = some (.slice (some qb) m5 qc) := (hf.out.2.2.2.1 _ hR.1.mv.below).1
        clear hslot hoth hdo hcl hLi
        refine guard_on (j := 23) (want := false) (d := 40) (by rfl) (by rfl) gg ?_
        go_simp
        exact hK _ _ (flat_mark (hR.1) (fun _ _ h => h) hR.2 rfl)
    · intro b0 us wz L hslot hoth hLi hR hcl hdo K hK
      rcases HL.out with ⟨rfl, rfl, hf⟩ | ⟨rfl, rfl, rfl, hf⟩ | ⟨rfl, rfl, rfl, rfl, hf⟩ | ⟨rfl, rfl, rfl, rfl, hf⟩ | ⟨rfl, rfl, rfl, rfl, rfl, hf⟩
      · have gg : us 23 = .bool true := hR.2 23 (done_at hdo 23 (by rfl))
        refine guard_off (j := 23) (want := false) (d := 40) (by rfl) (by rfl) gg (by rfl) ?_
        exact hK undef _ (flat_mark (hR.1) (fun _ _ h => h) hR.2 rfl)
      · have gg : us 23 = .bool true := hR.2 23 (done_at hdo 23 (by rfl))
        refine guard_off (j := 23) (want := false) (d := 40) (by rfl) (by rfl) gg (by rfl) ?_
        exact hK undef _ (flat_mark (hR.1) (fun _ _ h => h) hR.2 rfl)
      · have gg : us 23 = .bool true := hR.2 23 (done_at hdo 23 (by rfl))
        refine guard_off (j := 23) (want := false) (d := 40) (by rfl) (by rfl) gg (by rfl) ?_
        exact hK undef _ (flat_mark (hR.1) (fun _ _ h => h) hR.2 rfl)
      · have gg : us 23 = .bool true := hR.2 23 (done_at hdo 23 (by rfl))
        refine guard_off (j := 23) (want := false) (d := 40) (by rfl) (by rfl) gg (by rfl) ?_
        exact hK undef _ (flat_mark (hR.1) (fun _ _ h => h) hR.2 rfl)
      · have gg : us 23 = .bool false := hR.2 23 (done_at hdo 23 (by rfl))
        have s5 : b0.tmps.getD 5 undef = .pointer (some ⟨w.heap.size, 0, none⟩) := hoth 5 (by rfl)
        clear hslot hoth hdo hcl hLi
        refine guard_on (j := 23) (want := false) (d := 40) (by rfl) (by rfl) gg ?_
        go_simp
        exact hK _ _ (flat_mark (hR.1) (fun _ _ h => h) hR.2 rfl)
    · intro b0 us wz L hslot hoth hLi hR hcl hdo K hK
      rcases HL.out with ⟨rfl, rfl, hf⟩ | ⟨rfl, rfl, rfl, hf⟩ | ⟨rfl, rfl, rfl, rfl, hf⟩ | ⟨rfl, rfl, rfl, rfl, hf⟩ | ⟨rfl, rfl, rfl, rfl, rfl, hf⟩
      · have gg : us 23 = .bool true := hR.2 23 (done_at hdo 23 (by rfl))
        refine guard_off (j := 23) (want := false) (d := 40) (by rfl) (by rfl) gg (by rfl) ?_
        exact hK undef _ (flat_mark (hR.1) (fun _ _ h => h) hR.2 rfl)
      · have gg : us 23 = .bool true := hR.2 23 (done_at hdo 23 (by rfl))
        refine guard_off (j := 23) (want := false) (d := 40) (by rfl) (by rfl) gg (by rfl) ?_
        exact hK undef _ (flat_mark (hR.1) (fun _ _ h => h) hR.2 rfl)
      · have gg : us 23 = .bool true := hR.2 23 (done_at hdo 23 (by rfl))
        refine guard_off (j := 23) (want := false) (d := 40) (by rfl) (by rfl) gg (by rfl) ?_
        exact hK undef _ (flat_mark (hR.1) (fun _ _ h => h) hR.2 rfl)
      · have gg : us 23 = .bool true := hR.2 23 (done_at hdo 23 (by rfl))
        refine guard_off (j := 23) (want := false) (d := 40) (by rfl) (by rfl) gg (by rfl) ?_
        exact hK undef _ (flat_mark (hR.1) (fun _ _ h => h) hR.2 rfl)
      · have gg : us 23 = .bool false := hR.2 23 (done_at hdo 23 (by rfl))
        have s46 : b0.tmps.getD 46 undef = .pointer (some ⟨w.heap.size, 0, none⟩) := (hslot 29 46 (by rfl)).trans (hR.2 29 (done_at hdo 29 (by rfl)))
        have t0 := (hR.1.mv.tap).c0
        have t1 := (hR.1.mv.tap).c1
        have t2 := (hR.1.mv.tap).c2
        have t3 := (hR.1.mv.tap).c3
        have t4 := (hR.1.mv.tap).c4
        have t5 := (hR.1.mv.tap).c5
        clear hslot hoth hdo hcl hLi
        refine guard_on (j := 23) (want := false) (d := 40) (by rfl) (by rfl) gg ?_
        go_simp
        exact hK _ _ (flat_mark (hR.1) (fun _ _ h => h) hR.2 rfl)
    · intro b0 us wz L hslot hoth hLi hR hcl hdo K hK
      rcases HL.out with ⟨rfl, rfl, hf⟩ | ⟨rfl, rfl, rfl, hf⟩ | ⟨rfl, rfl, rfl, rfl, hf⟩ | ⟨rfl, rfl, rfl, rfl, hf⟩ | ⟨rfl, rfl, rfl, rfl, rfl, hf⟩
      · have gg : us 23 = .bool true := hR.2 23 (done_at hdo 23 (by rfl))
        refine guard_off (j := 23) (want := false) (d := 40) (by rfl) (by rfl) gg (by rfl) ?_
        exact hK undef _ (flat_mark (hR.1) (fun _ _ h => h) hR.2 rfl)
      · have gg : us 23 = .bool true := hR.2 23 (done_at hdo 23 (by rfl))
        refine guard_off (j := 23) (want := false) (d := 40) (by rfl) (by rfl) gg (by rfl) ?_
        exact hK undef _ (flat_mark (hR.1) (fun _ _ h => h) hR.2 rfl)
      · have gg : us 23 = .bool true := hR.2 23 (done_at hdo 23 (by rfl))
        refine guard_off (j := 23) (want := false) (d := 40) (by rfl) (by rfl) gg (by rfl) ?_
        exact hK undef _ (flat_mark (hR.1) (fun _ _ h => h) hR.2 rfl)
      · have gg : us 23 = .bool true := hR.2 23 (done_at hdo 23 (by rfl))
        refine guard_off (j := 23) (want := false) (d := 40) (by rfl) (by rfl) gg (by rfl) ?_
        exact hK undef _ (flat_mark (hR.1) (fun _ _ h => h) hR.2 rfl)
      · have gg : us 23 = .bool false := hR.2 23 (done_at hdo 23 (by rfl))
        have s45 : b0.tmps.getD 45 undef = .slice (some qb) m5 qc := (hslot 28 45 (by rfl)).trans (hR.2 28 (done_at hdo 28 (by rfl)))
        have s47 : b0.tmps.getD 47 undef = .int .i64 r := (hslot 30 47 (by rfl)).trans (hR.2 30 (done_at hdo 30 (by rfl)))
        clear hslot hoth hdo hcl hLi
        refine guard_on (j := 23) (want := false) (d := 40) (by rfl) (by rfl) gg ?_
        go_simp
        refine (hf.out.2.2.2.2 wz hR.1.mv.below).mono ?_
        rintro e w' ⟨rfl, hb⟩
        exact hK _ _ (flat_mark (hR.1.on hb) (fun _ _ h => h) hR.2 rfl)
    · intro b0 us wz L hslot hoth hLi hR hcl hdo K hK
      rcases HL.out with ⟨rfl, rfl, hf⟩ | ⟨rfl, rfl, rfl, hf⟩ | ⟨rfl, rfl, rfl, rfl, hf⟩ | ⟨rfl, rfl, rfl, rfl, hf⟩ | ⟨rfl, rfl, rfl, rfl, rfl, hf⟩
      · have gg : us 23 = .bool true := hR.2 23 (done_at hdo 23 (by rfl))
        refine guard_off (j := 23) (want := false) (d := 40) (by rfl) (by rfl) gg (by rfl) ?_
        exact hK undef _ (flat_mark (hR.1) (fun _ _ h => h) hR.2 rfl)
      · have gg : us 23 = .bool true := hR.2 23 (done_at hdo 23 (by rfl))
        refine guard_off (j := 23) (want := false) (d := 40) (by rfl) (by rfl) gg (by rfl) ?_
        exact hK undef _ (flat_mark (hR.1) (fun _ _ h => h) hR.2 rfl)
      · have gg : us 23 = .bool true := hR.2 23 (done_at hdo 23 (by rfl))
        refine guard_off (j := 23) (want := false) (d := 40) (by rfl) (by rfl) gg (by rfl) ?_
        exact hK undef _ (flat_mark (hR.1) (fun _ _ h => h) hR.2 rfl)
      · have gg : us 23 = .bool true := hR.2 23 (done_at hdo 23 (by rfl))
        refine guard_off (j := 23) (want := false) (d := 40) (by rfl) (by rfl) gg (by rfl) ?_
        exact hK undef _ (flat_mark (hR.1) (fun _ _ h => h) hR.2 rfl)
      · have gg : us 23 = .bool false := hR.2 23 (done_at hdo 23 (by rfl))
        have s48 : b0.tmps.getD 48 undef = .bool false := (hslot 31 48 (by rfl)).trans (hR.2 31 (done_at hdo 31 (by rfl)))
        clear hslot hoth hdo hcl hLi
        refine guard_on (j := 23) (want := false) (d := 40) (by rfl) (by rfl) gg ?_
        go_simp
        exact hK _ _ (flat_mark (hR.1) (fun _ _ h => h) hR.2 rfl)
    · intro b0 us wz L hslot hoth hLi hR hcl hdo K hK
      rcases HL.out with ⟨rfl, rfl, hf⟩ | ⟨rfl, rfl, rfl, hf⟩ | ⟨rfl, rfl, rfl, rfl, hf⟩ | ⟨rfl, rfl, rfl, rfl, hf⟩ | ⟨rfl, rfl, rfl, rfl, rfl, hf⟩
      · have s40 : b0.tmps.getD 40 undef = .bool true := (hslot 23 40 (by rfl)).trans (hR.2 23 (done_at hdo 23 (by rfl)))
        have s49 : b0.tmps.getD 49 undef = undef := (hslot 32 49 (by rfl)).trans (hR.2 32 (done_at hdo 32 (by rfl)))
        clear hslot hoth hdo hcl hLi
        refine guard_none (by rfl) ?_
        go_simp
        exact hK _ _ (flat_mark (hR.1) (fun _ _ h => h) hR.2 rfl)
      · have s40 : b0.tmps.getD 40 undef = .bool true := (hslot 23 40 (by rfl)).trans (hR.2 23 (done_at hdo 23 (by rfl)))
        have s49 : b0.tmps.getD 49 undef = undef := (hslot 32 49 (by rfl)).trans (hR.2 32 (done_at hdo 32 (by rfl)))
        clear hslot hoth hdo hcl hLi
        refine guard_none (by rfl) ?_
        go_simp
        exact hK _ _ (flat_mark (hR.1) (fun _ _ h => h) hR.2 rfl)
      · have s40 : b0.tmps.getD 40 undef = .bool true := (hslot 23 40 (by rfl)).trans (hR.2 23 (done_at hdo 23 (by rfl)))
        have s49 : b0.tmps.getD 49 undef = undef := (hslot 32 49 (by rfl)).trans (hR.2 32 (done_at hdo 32 (by rfl)))
        clear hslot hoth hdo hcl hLi
        refine guard_none (by rfl) ?_
        go_simp
        exact hK _ _ (flat_mark (hR.1) (fun _ _ h => h) hR.2 rfl)
      · have s40 : b0.tmps.getD 40 undef = .bool true := (hslot 23 40 (by rfl)).trans (hR.2 23 (done_at hdo 23 (by rfl)))
        have s49 : b0.tmps.getD 49 undef = undef := (hslot 32 49 (by rfl)).trans (hR.2 32 (done_at hdo 32 (by rfl)))
        clear hslot hoth hdo hcl hLi
        refine guard_none (by rfl) ?_
        go_simp
        exact hK _ _ (flat_mark (hR.1) (fun _ _ h => h) hR.2 rfl)
      · have s40 : b0.tmps.getD 40 undef = .bool false := (hslot 23 40 (by rfl)).trans (hR.2 23 (done_at hdo 23 (by rfl)))
        have s49 : b0.tmps.getD 49 undef = .bool true := (hslot 32 49 (by rfl)).trans (hR.2 32 (done_at hdo 32 (by rfl)))
        clear hslot hoth hdo hcl hLi
        refine guard_none (by rfl) ?_
        go_simp
        exact hK _ _ (flat_mark (hR.1) (fun _ _ h => h) hR.2 rfl)
  · intro us wn L hall hR a' ha'
    have g33 : us 33 = .bool true := by
      have := hR.2 33 (hall 33 (by decide))
      rcases HL.out with ⟨rfl, _⟩ | ⟨rfl, _⟩ | ⟨rfl, _⟩ | ⟨rfl, _⟩ | ⟨rfl, _⟩
      all_goals exact this
    have HB := hid_of hR.1
    clear hR hall
    simp only [putAll, g33] at ha'
    subst ha'
    go_frame
    have HSE := HB
    clear HB HL l HS HDD CK CT2 CI
    go_wp2
    go_returns
    exact ⟨g0, c0, fs0, rest0, by rw [← HNL.out]; rfl, HFS.out.1, HSE.out.out, HSE.out.mv.below⟩
end Go.Proofs.YtlemhlioidmanaaDoor
