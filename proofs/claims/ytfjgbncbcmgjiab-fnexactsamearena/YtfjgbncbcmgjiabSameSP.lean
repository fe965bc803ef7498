/-
  Two things held against each other: the model.
-/
import Derived.Test.YtfjgbncbcmgjiabSameI
namespace Go.Proofs.Ytfjgbncbcmgjiab
open Go.RowKit
set_option linter.unusedVariables false
set_option linter.unusedSimpArgs false

set_option maxRecDepth 100000 in
set_option maxHeartbeats 20000000 in
theorem specSame_rest (a b : Ob) (l d m l' d' m' : Value) (w : World) (hx : Lists w l d m a) (hy : Lists w l' d' m' b) (hn : obN a ≤ 1048576) (v0 : (a.gen != b.gen) = false) (v1 : (a.kind != b.kind) = false) (v2 : (a.into != b.into) = false) (v3 : (a.res != b.res) = false) (v4 : (a.unt != b.unt) = false) (v5 : (a.pages != b.pages) = false) (v6 : (a.wait != b.wait) = false) (v7 : (a.got != b.got) = false) (v8 : (a.ran != b.ran) = false) (v9 : a.mark = b.mark) (y0 : a.ls.length = b.ls.length) (y1 : a.ds.length = b.ds.length) (y2 : a.qs.length = b.qs.length) :
    Calls Try.prog 45 #[obV a l d m, obV b l' d' m'] w fun e w' => e = .returned (.bool (sameInts a.ls b.ls && (sameInts a.ds b.ds && sameMsgs a.qs b.qs))) ∧ Below w.heap.size w w' := by
  have z0 : ((a.ls.length : Int) != (b.ls.length : Int)) = false := by simp [y0]
  have HLls := hid_of y0
  clear y0
  have z1 : ((a.ds.length : Int) != (b.ds.length : Int)) = false := by simp [y1]
  have HLds := hid_of y1
  clear y1
  have z2 : ((a.qs.length : Int) != (b.qs.length : Int)) = false := by simp [y2]
  have HLqs := hid_of y2
  clear y2
  have HV9 := hid_of v9
  clear v9
  have hx0 := hx
  have hy0 := hy
  obtain ⟨⟨la, ca, rfl, hca, _⟩, ⟨da, ca', rfl, hca', _⟩, ⟨ma, ca'', rfl, hca'', _⟩⟩ := hx
  obtain ⟨⟨lb, cb, rfl, hcb, _⟩, ⟨db, cb', rfl, hcb', _⟩, ⟨mb, cb'', rfl, hcb'', _⟩⟩ := hy
  have hb0 : Below w.heap.size w ((w.alloc (boxO a (.slice la a.ls.length ca) (.slice da a.ds.length ca') (.slice ma a.qs.length ca''))).alloc (boxO b (.slice lb b.ls.length cb) (.slice db b.ds.length cb') (.slice mb b.qs.length cb''))) := by go_grown
  obtain ⟨V, hV⟩ : ∃ V, V = ((w.alloc (boxO a (.slice la a.ls.length ca) (.slice da a.ds.length ca') (.slice ma a.qs.length ca''))).alloc (boxO b (.slice lb b.ls.length cb) (.slice db b.ds.length cb') (.slice mb b.qs.length cb''))) := ⟨_, rfl⟩
  have hb1 : Below w.heap.size w V := by rw [hV]; exact hb0
  have HB : Hid (Below w.heap.size w V) := hb1
  have HA : Hid (∀ wr, Below V.heap.size V wr → Box13 wr w.heap.size a (.slice la a.ls.length ca) (.slice da a.ds.length ca') (.slice ma a.qs.length ca'')) := fun wr hb => by
    have h : Box13 V w.heap.size a (.slice la a.ls.length ca) (.slice da a.ds.length ca') (.slice ma a.qs.length ca'') := ⟨by rw [hV]; exact keep (heap_alloc_new w _) (below_alloc _ _)⟩
    exact h.on hb
  have HC : Hid (∀ wr, Below V.heap.size V wr → Box13 wr (w.heap.size + 1) b (.slice lb b.ls.length cb) (.slice db b.ds.length cb') (.slice mb b.qs.length cb'')) := fun wr hb => by
    have h : Box13 V (w.heap.size + 1) b (.slice lb b.ls.length cb) (.slice db b.ds.length cb') (.slice mb b.qs.length cb'') := ⟨by rw [hV]; have := heap_alloc_new (w.alloc (boxO a (.slice la a.ls.length ca) (.slice da a.ds.length ca') (.slice ma a.qs.length ca''))) (boxO b (.slice lb b.ls.length cb) (.slice db b.ds.length cb') (.slice mb b.qs.length cb'')); simpa using this⟩
    exact h.on hb
  have HI1 : Hid (∀ i, i < a.ls.length → ∃ p, la = some p ∧ V.cell? (p.add i) = some (.int .i64 (a.ls.getD i 0))) := fun i hi => by
    obtain ⟨_, _, hv, _, h⟩ := (hx0.on hb1).ls
    cases hv
    exact h i hi
  have HD1 : Hid (∀ i, i < a.ds.length → ∃ p, da = some p ∧ V.cell? (p.add i) = some (.int .i64 (a.ds.getD i 0))) := fun i hi => by
    obtain ⟨_, _, hv, _, h⟩ := (hx0.on hb1).ds
    cases hv
    exact h i hi
  have HI2 : Hid (∀ i, i < b.ls.length → ∃ p, lb = some p ∧ V.cell? (p.add i) = some (.int .i64 (b.ls.getD i 0))) := fun i hi => by
    obtain ⟨_, _, hv, _, h⟩ := (hy0.on hb1).ls
    cases hv
    exact h i hi
  have HD2 : Hid (∀ i, i < b.ds.length → ∃ p, db = some p ∧ V.cell? (p.add i) = some (.int .i64 (b.ds.getD i 0))) := fun i hi => by
    obtain ⟨_, _, hv, _, h⟩ := (hy0.on hb1).ds
    cases hv
    exact h i hi
  have HQ1 : Hid (∀ i, i < a.qs.length → ∃ p, ma = some p ∧ V.cell? (p.add (i * 2)) = some (.int .i64 (msAt a.qs i).f) ∧ V.cell? ⟨(p.add (i * 2)).block, (p.add (i * 2)).off + 1, none⟩ = some (.int .i64 (msAt a.qs i).n)) := fun i hi => by
    obtain ⟨_, _, hv, _, h⟩ := (hx0.on hb1).qs
    cases hv
    exact h i hi
  have HQ2 : Hid (∀ i, i < b.qs.length → ∃ p, mb = some p ∧ V.cell? (p.add (i * 2)) = some (.int .i64 (msAt b.qs i).f) ∧ V.cell? ⟨(p.add (i * 2)).block, (p.add (i * 2)).off + 1, none⟩ = some (.int .i64 (msAt b.qs i).n)) := fun i hi => by
    obtain ⟨_, _, hv, _, h⟩ := (hy0.on hb1).qs
    cases hv
    exact h i hi
  unfold obN at hn
  clear hx0 hy0 hb0 hb1
  go_enter Try.func45, Try.ntmps45
  repeat (first | (with_reducible refine halt_region (id := 1) ?_) | go_values | go_skip | go_guarded | go_step | go_upon | go_back)
  unfold Halt0
  rw [← hV]
  clear hV
  have v9 := HV9.out
  have ka0 := (HA.out _ (Below.refl _ _)).c0
  have kb0 := (HC.out _ (Below.refl _ _)).c0
  have ka1 := (HA.out _ (Below.refl _ _)).c1
  have kb1 := (HC.out _ (Below.refl _ _)).c1
  have ka2 := (HA.out _ (Below.refl _ _)).c2
  have kb2 := (HC.out _ (Below.refl _ _)).c2
  have ka3 := (HA.out _ (Below.refl _ _)).c3
  have kb3 := (HC.out _ (Below.refl _ _)).c3
  have ka4 := (HA.out _ (Below.refl _ _)).c4
  have kb4 := (HC.out _ (Below.refl _ _)).c4
  have ka5 := (HA.out _ (Below.refl _ _)).c5
  have kb5 := (HC.out _ (Below.refl _ _)).c5
  have ka6 := (HA.out _ (Below.refl _ _)).c6
  have kb6 := (HC.out _ (Below.refl _ _)).c6
  have ka7 := (HA.out _ (Below.refl _ _)).c7
  have kb7 := (HC.out _ (Below.refl _ _)).c7
  have ka8 := (HA.out _ (Below.refl _ _)).c8
  have kb8 := (HC.out _ (Below.refl _ _)).c8
  have ka9 := (HA.out _ (Below.refl _ _)).c9
  have kb9 := (HC.out _ (Below.refl _ _)).c9
  have ka10 := (HA.out _ (Below.refl _ _)).c10
  have kb10 := (HC.out _ (Below.refl _ _)).c10
  have ka11 := (HA.out _ (Below.refl _ _)).c11
  have kb11 := (HC.out _ (Below.refl _ _)).c11
  have ka12 := (HA.out _ (Below.refl _ _)).c12
  have kb12 := (HC.out _ (Below.refl _ _)).c12
  have hl1 : a.ls.length ≤ 1048576 := by omega
  have hl2 : a.ds.length ≤ 1048576 := by omega
  have hl3 : a.qs.length ≤ 1048576 := by omega
  go_wp2
  clear ka0 kb0 ka1 kb1 ka2 kb2 ka3 kb3 ka4 kb4 ka5 kb5 ka6 kb6 ka7 kb7 ka8 kb8 ka9 kb9 ka10 kb10 ka11 kb11 ka12 kb12
  go_loopw [5] (fun i wr => ∃ k : Nat, k ≤ a.ls.length ∧ i = .int .i64 k ∧ Hid (a.ls.take k = b.ls.take k) ∧ Below w.heap.size w wr ∧ Hid (Below V.heap.size V wr)) (fun i _ => a.ls.length - (intOf i).toNat)
  case atStart => exact ⟨0, Nat.zero_le _, rfl, rfl, HB.out, Below.refl _ _⟩
  case round =>
    obtain ⟨k, hk, rfl, htk, hnx, hvx⟩ := hrel
    have ka := (HA.out _ hvx.out).c10
    have kb := (HC.out _ hvx.out).c10
    rw [← HLls.out] at kb
    by_cases hlt : k < a.ls.length
    · obtain ⟨p, rfl, hc1⟩ := HI1.out k hlt
      obtain ⟨q, rfl, hc2⟩ := HI2.out k (by rw [← HLls.out]; exact hlt)
      have d1 : wr.cell? (p.add k) = some (.int .i64 (a.ls.getD k 0)) := (hvx.out.cell (World.block_lt_of_cell? V _ hc1)).trans hc1
      have d2 : wr.cell? (q.add k) = some (.int .i64 (b.ls.getD k 0)) := (hvx.out.cell (World.block_lt_of_cell? V _ hc2)).trans hc2
      have H1 : Hid (a.ls.getD k 0 = b.ls.getD k 0 → a.ls.take (k + 1) = b.ls.take (k + 1)) := fun he => take_more hlt (by rw [← HLls.out]; exact hlt) htk.out he
      have H2 : Hid (a.ls.getD k 0 ≠ b.ls.getD k 0 → sameInts a.ls b.ls = false) := fun he => sameInts_no (getD_ne he)
      obtain ⟨x, hx⟩ : ∃ x, x = a.ls.getD k 0 := ⟨_, rfl⟩
      obtain ⟨y, hy⟩ : ∃ y, y = b.ls.getD k 0 := ⟨_, rfl⟩
      rw [← hx] at d1 H1 H2
      rw [← hy] at d2 H1 H2
      clear hc1 hc2 hx hy htk
      by_cases hxy : x = y
      · have hne : (x != y) = false := by simp [hxy]
        have H3 : Hid (a.ls.take (k + 1) = b.ls.take (k + 1)) := H1.out hxy
        clear H1 H2 hxy
        go_wp2
        go_quiet (fail)
        go_wp2
        go_roundw
        case rel => exact ⟨k + 1, by omega, by go_num, H3, below_drewN hnx _, below_drewN hvx.out _⟩
        case measure => simp [intOf]; omega
      · have hne : (x != y) = true := by simp [hxy]
        have hs : sameInts a.ls b.ls = false := H2.out hxy
        clear H1 H2 hxy
        have E : Hid ((sameInts a.ls b.ls && (sameInts a.ds b.ds && sameMsgs a.qs b.qs)) = false) := by show (sameInts a.ls b.ls && (sameInts a.ds b.ds && sameMsgs a.qs b.qs)) = false; simp [hs]
        go_wp2
        go_quiet (fail)
        go_wp2
        go_ret
        exact ⟨by rw [E.out]; rfl, below_drewN hnx _⟩
    · have hke : k = a.ls.length := by omega
      have hsl : sameInts a.ls b.ls = true := by
        have := htk.out
        rw [hke, List.take_of_length_le (Nat.le_refl _), List.take_of_length_le (by rw [HLls.out]; exact Nat.le_refl _)] at this
        rw [this]; exact sameInts_refl _
      have HNls : Hid (Below w.heap.size w wr) := hnx
      have HVls : Hid (Below V.heap.size V wr) := hvx
      clear hke htk hvx
      go_wp2
      clear ka kb
      go_loopw [6] (fun i wr => ∃ k : Nat, k ≤ a.ds.length ∧ i = .int .i64 k ∧ Hid (a.ds.take k = b.ds.take k) ∧ Below w.heap.size w wr ∧ Hid (Below V.heap.size V wr)) (fun i _ => a.ds.length - (intOf i).toNat)
      case atStart => exact ⟨0, Nat.zero_le _, rfl, rfl, HNls.out, HVls⟩
      case round =>
        obtain ⟨k, hk, rfl, htk, hnx, hvx⟩ := hrel
        have ka := (HA.out _ hvx.out).c11
        have kb := (HC.out _ hvx.out).c11
        rw [← HLds.out] at kb
        by_cases hlt : k < a.ds.length
        · obtain ⟨p, rfl, hc1⟩ := HD1.out k hlt
          obtain ⟨q, rfl, hc2⟩ := HD2.out k (by rw [← HLds.out]; exact hlt)
          have d1 : wr.cell? (p.add k) = some (.int .i64 (a.ds.getD k 0)) := (hvx.out.cell (World.block_lt_of_cell? V _ hc1)).trans hc1
          have d2 : wr.cell? (q.add k) = some (.int .i64 (b.ds.getD k 0)) := (hvx.out.cell (World.block_lt_of_cell? V _ hc2)).trans hc2
          have H1 : Hid (a.ds.getD k 0 = b.ds.getD k 0 → a.ds.take (k + 1) = b.ds.take (k + 1)) := fun he => take_more hlt (by rw [← HLds.out]; exact hlt) htk.out he
          have H2 : Hid (a.ds.getD k 0 ≠ b.ds.getD k 0 → sameInts a.ds b.ds = false) := fun he => sameInts_no (getD_ne he)
          obtain ⟨x, hx⟩ : ∃ x, x = a.ds.getD k 0 := ⟨_, rfl⟩
          obtain ⟨y, hy⟩ : ∃ y, y = b.ds.getD k 0 := ⟨_, rfl⟩
          rw [← hx] at d1 H1 H2
          rw [← hy] at d2 H1 H2
          clear hc1 hc2 hx hy htk
          by_cases hxy : x = y
          · have hne : (x != y) = false := by simp [hxy]
            have H3 : Hid (a.ds.take (k + 1) = b.ds.take (k + 1)) := H1.out hxy
            clear H1 H2 hxy
            go_wp2
            go_quiet (fail)
            go_wp2
            go_roundw
            case rel => exact ⟨k + 1, by omega, by go_num, H3, below_drewN hnx _, below_drewN hvx.out _⟩
            case measure => simp [intOf]; omega
          · have hne : (x != y) = true := by simp [hxy]
            have hs : sameInts a.ds b.ds = false := H2.out hxy
            clear H1 H2 hxy
            have E : Hid ((sameInts a.ls b.ls && (sameInts a.ds b.ds && sameMsgs a.qs b.qs)) = false) := by show (sameInts a.ls b.ls && (sameInts a.ds b.ds && sameMsgs a.qs b.qs)) = false; simp [hs]
            go_wp2
            go_quiet (fail)
            go_wp2
            go_ret
            exact ⟨by rw [E.out]; rfl, below_drewN hnx _⟩
        · have hke : k = a.ds.length := by omega
          have hsd : sameInts a.ds b.ds = true := by
            have := htk.out
            rw [hke, List.take_of_length_le (Nat.le_refl _), List.take_of_length_le (by rw [HLds.out]; exact Nat.le_refl _)] at this
            rw [this]; exact sameInts_refl _
          have HNds : Hid (Below w.heap.size w wr) := hnx
          have HVds : Hid (Below V.heap.size V wr) := hvx
          clear hke htk hvx
          go_wp2
          clear ka kb
          go_loopw [7] (fun i wr => ∃ k : Nat, k ≤ a.qs.length ∧ i = .int .i64 k ∧ Hid ((a.qs.map prM).take k = (b.qs.map prM).take k) ∧ Below w.heap.size w wr ∧ Hid (Below V.heap.size V wr)) (fun i _ => a.qs.length - (intOf i).toNat)
          case atStart => exact ⟨0, Nat.zero_le _, rfl, rfl, HNds.out, HVds⟩
          case round =>
            obtain ⟨k, hk, rfl, htk, hnx, hvx⟩ := hrel
            have ka := (HA.out _ hvx.out).c12
            have kb := (HC.out _ hvx.out).c12
            rw [← HLqs.out] at kb
            by_cases hlt : k < a.qs.length
            · have hky : k < b.qs.length := by rw [← HLqs.out]; exact hlt
              obtain ⟨p, rfl, hc1, hc1'⟩ := HQ1.out k hlt
              obtain ⟨q, rfl, hc2, hc2'⟩ := HQ2.out k hky
              have d1 : wr.cell? (p.add (k * 2)) = some (.int .i64 (msAt a.qs k).f) := (hvx.out.cell (World.block_lt_of_cell? V _ hc1)).trans hc1
              have d1' : wr.cell? ⟨(p.add (k * 2)).block, (p.add (k * 2)).off + 1, none⟩ = some (.int .i64 (msAt a.qs k).n) := (hvx.out.cell (p := ⟨(p.add (k * 2)).block, (p.add (k * 2)).off + 1, none⟩) (World.block_lt_of_cell? V _ hc1')).trans hc1'
              have d2 : wr.cell? (q.add (k * 2)) = some (.int .i64 (msAt b.qs k).f) := (hvx.out.cell (World.block_lt_of_cell? V _ hc2)).trans hc2
              have d2' : wr.cell? ⟨(q.add (k * 2)).block, (q.add (k * 2)).off + 1, none⟩ = some (.int .i64 (msAt b.qs k).n) := (hvx.out.cell (p := ⟨(q.add (k * 2)).block, (q.add (k * 2)).off + 1, none⟩) (World.block_lt_of_cell? V _ hc2')).trans hc2'
              have H1 : Hid (prM (msAt a.qs k) = prM (msAt b.qs k) → (a.qs.map prM).take (k + 1) = (b.qs.map prM).take (k + 1)) := fun he => takeM_more hlt hky htk.out he
              have H2 : Hid (prM (msAt a.qs k) ≠ prM (msAt b.qs k) → sameMsgs a.qs b.qs = false) := fun he => sameMsgs_no (prM_ne hlt hky he)
              clear hky hc1 hc1' hc2 hc2' htk
              generalize msAt a.qs k = x at d1 d1' H1 H2
              generalize msAt b.qs k = y at d2 d2' H1 H2
              obtain ⟨f, n1⟩ := x
              obtain ⟨f', n2⟩ := y
              simp only at d1 d1' d2 d2'
              obtain ⟨q1, hq1⟩ : ∃ q, p.add (k * 2) = q := ⟨_, rfl⟩
              obtain ⟨q2, hq2⟩ : ∃ q', q.add (k * 2) = q' := ⟨_, rfl⟩
              rw [hq1] at d1 d1'
              rw [hq2] at d2 d2'
              by_cases hf : f = f'
              · by_cases hnn : n1 = n2
                · subst hf
                  subst hnn
                  have H3 : Hid ((a.qs.map prM).take (k + 1) = (b.qs.map prM).take (k + 1)) := H1.out rfl
                  clear H1 H2
                  go_wp2
                  go_quiet (fail)
                  go_wp2
                  go_roundw
                  case rel => exact ⟨k + 1, by omega, by go_num, H3, below_drewN hnx _, below_drewN hvx.out _⟩
                  case measure => simp [intOf]; omega
                · have hs : sameMsgs a.qs b.qs = false := H2.out (by simp [prM, hnn])
                  have hne : (n1 == n2) = false := by simp [hnn]
                  have E : Hid ((sameInts a.ls b.ls && (sameInts a.ds b.ds && sameMsgs a.qs b.qs)) = false) := by show (sameInts a.ls b.ls && (sameInts a.ds b.ds && sameMsgs a.qs b.qs)) = false; simp [hs]
                  clear H1 H2 hs
                  go_wp2
                  go_quiet (fail)
                  go_wp2
                  go_ret
                  exact ⟨by rw [E.out]; rfl, below_drewN hnx _⟩
              · have hs : sameMsgs a.qs b.qs = false := H2.out (by simp [prM, hf])
                have hne : (f == f') = false := by simp [hf]
                have E : Hid ((sameInts a.ls b.ls && (sameInts a.ds b.ds && sameMsgs a.qs b.qs)) = false) := by show (sameInts a.ls b.ls && (sameInts a.ds b.ds && sameMsgs a.qs b.qs)) = false; simp [hs]
                clear H1 H2 hs
                go_wp2
                go_quiet (fail)
                go_wp2
                go_ret
                exact ⟨by rw [E.out]; rfl, below_drewN hnx _⟩
            · have hke : k = a.qs.length := by omega
              have hsq : sameMsgs a.qs b.qs = true := by
                have := htk.out
                rw [hke, List.take_of_length_le (by rw [List.length_map]; exact Nat.le_refl _), List.take_of_length_le (by rw [List.length_map, ← HLqs.out]; exact Nat.le_refl _)] at this
                unfold sameMsgs
                rw [this]; simp
              have HNqs : Hid (Below w.heap.size w wr) := hnx
              clear hke htk hvx
              have E : Hid ((sameInts a.ls b.ls && (sameInts a.ds b.ds && sameMsgs a.qs b.qs)) = true) := by show _ = _; simp [hsl, hsd, hsq]
              go_wp2
              go_ret
              exact ⟨by rw [E.out]; rfl, HNqs.out⟩
end Go.Proofs.Ytfjgbncbcmgjiab
