/-
  Two things held against each other: the model. Two things held against each other: the model, all of it. Two arenas held against each other: the model and the program.
-/
import Derived.Test.YtokicnopfmokaaaSameI
import Derived.Test.YtokicnopfmokaaaSameS0
import Derived.Test.YtokicnopfmokaaaSameS1
import Derived.Test.YtokicnopfmokaaaSameS2
import Derived.Test.YtokicnopfmokaaaSameS3
import Derived.Test.YtokicnopfmokaaaArOkI
namespace Go.Proofs.Ytokicnopfmokaaa
open Go.RowKit
set_option linter.unusedVariables false
set_option maxRecDepth 100000
set_option linter.unusedSimpArgs false

set_option maxRecDepth 100000 in
set_option maxHeartbeats 20000000 in
theorem specSame_rest (a b : Ob) (l d m l' d' m' : Value) (w : World) (hx : Lists w l d m a) (hy : Lists w l' d' m' b) (hn : obN a ≤ 1048576) (v0 : (a.gen != b.gen) = false) (v1 : (a.kind != b.kind) = false) (v2 : (a.into != b.into) = false) (v3 : (a.res != b.res) = false) (v4 : (a.unt != b.unt) = false) (v5 : (a.pages != b.pages) = false) (v6 : (a.wait != b.wait) = false) (v7 : (a.got != b.got) = false) (v8 : (a.ran != b.ran) = false) (v9 : a.mark = b.mark) (y0 : a.ls.length = b.ls.length) (y1 : a.ds.length = b.ds.length) (y2 : a.qs.length = b.qs.length) :
    Calls Try.prog 24 #[obV a l d m, obV b l' d' m'] w fun e w' => e = .returned (.bool (sameInts a.ls b.ls && (sameInts a.ds b.ds && sameMsgs a.qs b.qs))) ∧ Below w.heap.size w w' := by
  have z0 : ((a.ls.length : Int) != (b.ls.length : Int)) = false := by simp [y0]
  have HLls := hid_of y0
  clear y0
  have z1 : ((a.ds.length : Int) != (b.ds.length : Int)) = false := by simp [y1]
  have HLds := hid_of y1
  clear y1
  have z2 : ((a.qs.length : Int) != (b.qs.length : Int)) = false := by simp [y2]
  have HLqs := hid_of y2
  clear y2
  have HV9 := hid_of v9
  clear v9
  have hx0 := hx
  have hy0 := hy
  obtain ⟨⟨la, ca, rfl, hca, _⟩, ⟨da, ca', rfl, hca', _⟩, ⟨ma, ca'', rfl, hca'', _⟩⟩ := hx
  obtain ⟨⟨lb, cb, rfl, hcb, _⟩, ⟨db, cb', rfl, hcb', _⟩, ⟨mb, cb'', rfl, hcb'', _⟩⟩ := hy
  have hb0 : Below w.heap.size w ((w.alloc (boxO a (.slice la a.ls.length ca) (.slice da a.ds.length ca') (.slice ma a.qs.length ca''))).alloc (boxO b (.slice lb b.ls.length cb) (.slice db b.ds.length cb') (.slice mb b.qs.length cb''))) := by go_grown
  obtain ⟨V, hV⟩ : ∃ V, V = ((w.alloc (boxO a (.slice la a.ls.length ca) (.slice da a.ds.length ca') (.slice ma a.qs.length ca''))).alloc (boxO b (.slice lb b.ls.length cb) (.slice db b.ds.length cb') (.slice mb b.qs.length cb''))) := ⟨_, rfl⟩
  have hb1 : Below w.heap.size w V := by rw [hV]; exact hb0
  have HB : Hid (Below w.heap.size w V) := hb1
  have HA : Hid (∀ wr, Below V.heap.size V wr → Box13 wr w.heap.size a (.slice la a.ls.length ca) (.slice da a.ds.length ca') (.slice ma a.qs.length ca'')) := fun wr hb => by
    have h : Box13 V w.heap.size a (.slice la a.ls.length ca) (.slice da a.ds.length ca') (.slice ma a.qs.length ca'') := ⟨by rw [hV]; exact keep (heap_alloc_new w _) (below_alloc _ _)⟩
    exact h.on hb
  have HC : Hid (∀ wr, Below V.heap.size V wr → Box13 wr (w.heap.size + 1) b (.slice lb b.ls.length cb) (.slice db b.ds.length cb') (.slice mb b.qs.length cb'')) := fun wr hb => by
    have h : Box13 V (w.heap.size + 1) b (.slice lb b.ls.length cb) (.slice db b.ds.length cb') (.slice mb b.qs.length cb'') := ⟨by rw [hV]; have := heap_alloc_new (w.alloc (boxO a (.slice la a.ls.length ca) (.slice da a.ds.length ca') (.slice ma a.qs.length ca''))) (boxO b (.slice lb b.ls.length cb) (.slice db b.ds.length cb') (.slice mb b.qs.length cb'')); simpa using this⟩
    exact h.on hb
  have HI1 : Hid (∀ i, i < a.ls.length → ∃ p, la = some p ∧ V.cell? (p.add i) = some (.int .i64 (a.ls.getD i 0))) := fun i hi => by
    obtain ⟨_, _, hv, _, h⟩ := (hx0.on hb1).ls
    cases hv
    exact h i hi
  have HD1 : Hid (∀ i, i < a.ds.length → ∃ p, da = some p ∧ V.cell? (p.add i) = some (.int .i64 (a.ds.getD i 0))) := fun i hi => by
    obtain ⟨_, _, hv, _, h⟩ := (hx0.on hb1).ds
    cases hv
    exact h i hi
  have HI2 : Hid (∀ i, i < b.ls.length → ∃ p, lb = some p ∧ V.cell? (p.add i) = some (.int .i64 (b.ls.getD i 0))) := fun i hi => by
    obtain ⟨_, _, hv, _, h⟩ := (hy0.on hb1).ls
    cases hv
    exact h i hi
  have HD2 : Hid (∀ i, i < b.ds.length → ∃ p, db = some p ∧ V.cell? (p.add i) = some (.int .i64 (b.ds.getD i 0))) := fun i hi => by
    obtain ⟨_, _, hv, _, h⟩ := (hy0.on hb1).ds
    cases hv
    exact h i hi
  have HQ1 : Hid (∀ i, i < a.qs.length → ∃ p, ma = some p ∧ V.cell? (p.add (i * 2)) = some (.int .i64 (msAt a.qs i).f) ∧ V.cell? ⟨(p.add (i * 2)).block, (p.add (i * 2)).off + 1, none⟩ = some (.int .i64 (msAt a.qs i).n)) := fun i hi => by
    obtain ⟨_, _, hv, _, h⟩ := (hx0.on hb1).qs
    cases hv
    exact h i hi
  have HQ2 : Hid (∀ i, i < b.qs.length → ∃ p, mb = some p ∧ V.cell? (p.add (i * 2)) = some (.int .i64 (msAt b.qs i).f) ∧ V.cell? ⟨(p.add (i * 2)).block, (p.add (i * 2)).off + 1, none⟩ = some (.int .i64 (msAt b.qs i).n)) := fun i hi => by
    obtain ⟨_, _, hv, _, h⟩ := (hy0.on hb1).qs
    cases hv
    exact h i hi
  unfold obN at hn
  clear hx0 hy0 hb0 hb1
  go_enter Try.func24, Try.ntmps24
  repeat (first | (with_reducible refine halt_region (id := 1) ?_) | go_values | go_skip | go_guarded | go_step | go_upon | go_back)
  unfold Halt0
  rw [← hV]
  clear hV
  have v9 := HV9.out
  have ka0 := (HA.out _ (Below.refl _ _)).c0
  have kb0 := (HC.out _ (Below.refl _ _)).c0
  have ka1 := (HA.out _ (Below.refl _ _)).c1
  have kb1 := (HC.out _ (Below.refl _ _)).c1
  have ka2 := (HA.out _ (Below.refl _ _)).c2
  have kb2 := (HC.out _ (Below.refl _ _)).c2
  have ka3 := (HA.out _ (Below.refl _ _)).c3
  have kb3 := (HC.out _ (Below.refl _ _)).c3
  have ka4 := (HA.out _ (Below.refl _ _)).c4
  have kb4 := (HC.out _ (Below.refl _ _)).c4
  have ka5 := (HA.out _ (Below.refl _ _)).c5
  have kb5 := (HC.out _ (Below.refl _ _)).c5
  have ka6 := (HA.out _ (Below.refl _ _)).c6
  have kb6 := (HC.out _ (Below.refl _ _)).c6
  have ka7 := (HA.out _ (Below.refl _ _)).c7
  have kb7 := (HC.out _ (Below.refl _ _)).c7
  have ka8 := (HA.out _ (Below.refl _ _)).c8
  have kb8 := (HC.out _ (Below.refl _ _)).c8
  have ka9 := (HA.out _ (Below.refl _ _)).c9
  have kb9 := (HC.out _ (Below.refl _ _)).c9
  have ka10 := (HA.out _ (Below.refl _ _)).c10
  have kb10 := (HC.out _ (Below.refl _ _)).c10
  have ka11 := (HA.out _ (Below.refl _ _)).c11
  have kb11 := (HC.out _ (Below.refl _ _)).c11
  have ka12 := (HA.out _ (Below.refl _ _)).c12
  have kb12 := (HC.out _ (Below.refl _ _)).c12
  have hl1 : a.ls.length ≤ 1048576 := by omega
  have hl2 : a.ds.length ≤ 1048576 := by omega
  have hl3 : a.qs.length ≤ 1048576 := by omega
  go_wp2
  clear ka0 kb0 ka1 kb1 ka2 kb2 ka3 kb3 ka4 kb4 ka5 kb5 ka6 kb6 ka7 kb7 ka8 kb8 ka9 kb9 ka10 kb10 ka11 kb11 ka12 kb12
  go_loopw [5] (fun i wr => ∃ k : Nat, k ≤ a.ls.length ∧ i = .int .i64 k ∧ Hid (a.ls.take k = b.ls.take k) ∧ Below w.heap.size w wr ∧ Hid (Below V.heap.size V wr)) (fun i _ => a.ls.length - (intOf i).toNat)
  case atStart => exact ⟨0, Nat.zero_le _, rfl, rfl, HB.out, Below.refl _ _⟩
  case round =>
    obtain ⟨k, hk, rfl, htk, hnx, hvx⟩ := hrel
    have ka := (HA.out _ hvx.out).c10
    have kb := (HC.out _ hvx.out).c10
    rw [← HLls.out] at kb
    by_cases hlt : k < a.ls.length
    · obtain ⟨p, rfl, hc1⟩ := HI1.out k hlt
      obtain ⟨q, rfl, hc2⟩ := HI2.out k (by rw [← HLls.out]; exact hlt)
      have d1 : wr.cell? (p.add k) = some (.int .i64 (a.ls.getD k 0)) := (hvx.out.cell (World.block_lt_of_cell? V _ hc1)).trans hc1
      have d2 : wr.cell? (q.add k) = some (.int .i64 (b.ls.getD k 0)) := (hvx.out.cell (World.block_lt_of_cell? V _ hc2)).trans hc2
      have H1 : Hid (a.ls.getD k 0 = b.ls.getD k 0 → a.ls.take (k + 1) = b.ls.take (k + 1)) := fun he => take_more hlt (by rw [← HLls.out]; exact hlt) htk.out he
      have H2 : Hid (a.ls.getD k 0 ≠ b.ls.getD k 0 → sameInts a.ls b.ls = false) := fun he => sameInts_no (getD_ne he)
      obtain ⟨x, hx⟩ : ∃ x, x = a.ls.getD k 0 := ⟨_, rfl⟩
      obtain ⟨y, hy⟩ : ∃ y, y = b.ls.getD k 0 := ⟨_, rfl⟩
      rw [← hx] at d1 H1 H2
      rw [← hy] at d2 H1 H2
      clear hc1 hc2 hx hy htk
      by_cases hxy : x = y
      · have hne : (x != y) = false := by simp [hxy]
        have H3 : Hid (a.ls.take (k + 1) = b.ls.take (k + 1)) := H1.out hxy
        clear H1 H2 hxy
        go_wp2
        go_quiet (fail)
        go_wp2
        go_roundw
        case rel => exact ⟨k + 1, by omega, by go_num, H3, below_drewN hnx _, below_drewN hvx.out _⟩
        case measure => simp [intOf]; omega
      · have hne : (x != y) = true := by simp [hxy]
        have hs : sameInts a.ls b.ls = false := H2.out hxy
        clear H1 H2 hxy
        have E : Hid ((sameInts a.ls b.ls && (sameInts a.ds b.ds && sameMsgs a.qs b.qs)) = false) := by show (sameInts a.ls b.ls && (sameInts a.ds b.ds && sameMsgs a.qs b.qs)) = false; simp [hs]
        go_wp2
        go_quiet (fail)
        go_wp2
        go_ret
        exact ⟨by rw [E.out]; rfl, below_drewN hnx _⟩
    · have hke : k = a.ls.length := by omega
      have hsl : sameInts a.ls b.ls = true := by
        have := htk.out
        rw [hke, List.take_of_length_le (Nat.le_refl _), List.take_of_length_le (by rw [HLls.out]; exact Nat.le_refl _)] at this
        rw [this]; exact sameInts_refl _
      have HNls : Hid (Below w.heap.size w wr) := hnx
      have HVls : Hid (Below V.heap.size V wr) := hvx
      clear hke htk hvx
      go_wp2
      clear ka kb
      go_loopw [6] (fun i wr => ∃ k : Nat, k ≤ a.ds.length ∧ i = .int .i64 k ∧ Hid (a.ds.take k = b.ds.take k) ∧ Below w.heap.size w wr ∧ Hid (Below V.heap.size V wr)) (fun i _ => a.ds.length - (intOf i).toNat)
      case atStart => exact ⟨0, Nat.zero_le _, rfl, rfl, HNls.out, HVls⟩
      case round =>
        obtain ⟨k, hk, rfl, htk, hnx, hvx⟩ := hrel
        have ka := (HA.out _ hvx.out).c11
        have kb := (HC.out _ hvx.out).c11
        rw [← HLds.out] at kb
        by_cases hlt : k < a.ds.length
        · obtain ⟨p, rfl, hc1⟩ := HD1.out k hlt
          obtain ⟨q, rfl, hc2⟩ := HD2.out k (by rw [← HLds.out]; exact hlt)
          have d1 : wr.cell? (p.add k) = some (.int .i64 (a.ds.getD k 0)) := (hvx.out.cell (World.block_lt_of_cell? V _ hc1)).trans hc1
          have d2 : wr.cell? (q.add k) = some (.int .i64 (b.ds.getD k 0)) := (hvx.out.cell (World.block_lt_of_cell? V _ hc2)).trans hc2
          have H1 : Hid (a.ds.getD k 0 = b.ds.getD k 0 → a.ds.take (k + 1) = b.ds.take (k + 1)) := fun he => take_more hlt (by rw [← HLds.out]; exact hlt) htk.out he
          have H2 : Hid (a.ds.getD k 0 ≠ b.ds.getD k 0 → sameInts a.ds b.ds = false) := fun he => sameInts_no (getD_ne he)
          obtain ⟨x, hx⟩ : ∃ x, x = a.ds.getD k 0 := ⟨_, rfl⟩
          obtain ⟨y, hy⟩ : ∃ y, y = b.ds.getD k 0 := ⟨_, rfl⟩
          rw [← hx] at d1 H1 H2
          rw [← hy] at d2 H1 H2
          clear hc1 hc2 hx hy htk
          by_cases hxy : x = y
          · have hne : (x != y) = false := by simp [hxy]
            have H3 : Hid (a.ds.take (k + 1) = b.ds.take (k + 1)) := H1.out hxy
            clear H1 H2 hxy
            go_wp2
            go_quiet (fail)
            go_wp2
            go_roundw
            case rel => exact ⟨k + 1, by omega, by go_num, H3, below_drewN hnx _, below_drewN hvx.out _⟩
            case measure => simp [intOf]; omega
          · have hne : (x != y) = true := by simp [hxy]
            have hs : sameInts a.ds b.ds = false := H2.out hxy
            clear H1 H2 hxy
            have E : Hid ((sameInts a.ls b.ls && (sameInts a.ds b.ds && sameMsgs a.qs b.qs)) = false) := by show (sameInts a.ls b.ls && (sameInts a.ds b.ds && sameMsgs a.qs b.qs)) = false; simp [hs]
            go_wp2
            go_quiet (fail)
            go_wp2
            go_ret
            exact ⟨by rw [E.out]; rfl, below_drewN hnx _⟩
        · have hke : k = a.ds.length := by omega
          have hsd : sameInts a.ds b.ds = true := by
            have := htk.out
            rw [hke, List.take_of_length_le (Nat.le_refl _), List.take_of_length_le (by rw [HLds.out]; exact Nat.le_refl _)] at this
            rw [this]; exact sameInts_refl _
          have HNds : Hid (Below w.heap.size w wr) := hnx
          have HVds : Hid (Below V.heap.size V wr) := hvx
          clear hke htk hvx
          go_wp2
          clear ka kb
          go_loopw [7] (fun i wr => ∃ k : Nat, k ≤ a.qs.length ∧ i = .int .i64 k ∧ Hid ((a.qs.map prM).take k = (b.qs.map prM).take k) ∧ Below w.heap.size w wr ∧ Hid (Below V.heap.size V wr)) (fun i _ => a.qs.length - (intOf i).toNat)
          case atStart => exact ⟨0, Nat.zero_le _, rfl, rfl, HNds.out, HVds⟩
          case round =>
            obtain ⟨k, hk, rfl, htk, hnx, hvx⟩ := hrel
            have ka := (HA.out _ hvx.out).c12
            have kb := (HC.out _ hvx.out).c12
            rw [← HLqs.out] at kb
            by_cases hlt : k < a.qs.length
            · have hky : k < b.qs.length := by rw [← HLqs.out]; exact hlt
              obtain ⟨p, rfl, hc1, hc1'⟩ := HQ1.out k hlt
              obtain ⟨q, rfl, hc2, hc2'⟩ := HQ2.out k hky
              have d1 : wr.cell? (p.add (k * 2)) = some (.int .i64 (msAt a.qs k).f) := (hvx.out.cell (World.block_lt_of_cell? V _ hc1)).trans hc1
              have d1' : wr.cell? ⟨(p.add (k * 2)).block, (p.add (k * 2)).off + 1, none⟩ = some (.int .i64 (msAt a.qs k).n) := (hvx.out.cell (p := ⟨(p.add (k * 2)).block, (p.add (k * 2)).off + 1, none⟩) (World.block_lt_of_cell? V _ hc1')).trans hc1'
              have d2 : wr.cell? (q.add (k * 2)) = some (.int .i64 (msAt b.qs k).f) := (hvx.out.cell (World.block_lt_of_cell? V _ hc2)).trans hc2
              have d2' : wr.cell? ⟨(q.add (k * 2)).block, (q.add (k * 2)).off + 1, none⟩ = some (.int .i64 (msAt b.qs k).n) := (hvx.out.cell (p := ⟨(q.add (k * 2)).block, (q.add (k * 2)).off + 1, none⟩) (World.block_lt_of_cell? V _ hc2')).trans hc2'
              have H1 : Hid (prM (msAt a.qs k) = prM (msAt b.qs k) → (a.qs.map prM).take (k + 1) = (b.qs.map prM).take (k + 1)) := fun he => takeM_more hlt hky htk.out he
              have H2 : Hid (prM (msAt a.qs k) ≠ prM (msAt b.qs k) → sameMsgs a.qs b.qs = false) := fun he => sameMsgs_no (prM_ne hlt hky he)
              clear hky hc1 hc1' hc2 hc2' htk
              generalize msAt a.qs k = x at d1 d1' H1 H2
              generalize msAt b.qs k = y at d2 d2' H1 H2
              obtain ⟨f, n1⟩ := x
              obtain ⟨f', n2⟩ := y
              simp only at d1 d1' d2 d2'
              obtain ⟨q1, hq1⟩ : ∃ q, p.add (k * 2) = q := ⟨_, rfl⟩
              obtain ⟨q2, hq2⟩ : ∃ q', q.add (k * 2) = q' := ⟨_, rfl⟩
              rw [hq1] at d1 d1'
              rw [hq2] at d2 d2'
              by_cases hf : f = f'
              · by_cases hnn : n1 = n2
                · subst hf
                  subst hnn
                  have H3 : Hid ((a.qs.map prM).take (k + 1) = (b.qs.map prM).take (k + 1)) := H1.out rfl
                  clear H1 H2
                  go_wp2
                  go_quiet (fail)
                  go_wp2
                  go_roundw
                  case rel => exact ⟨k + 1, by omega, by go_num, H3, below_drewN hnx _, below_drewN hvx.out _⟩
                  case measure => simp [intOf]; omega
                · have hs : sameMsgs a.qs b.qs = false := H2.out (by simp [prM, hnn])
                  have hne : (n1 == n2) = false := by simp [hnn]
                  have E : Hid ((sameInts a.ls b.ls && (sameInts a.ds b.ds && sameMsgs a.qs b.qs)) = false) := by show (sameInts a.ls b.ls && (sameInts a.ds b.ds && sameMsgs a.qs b.qs)) = false; simp [hs]
                  clear H1 H2 hs
                  go_wp2
                  go_quiet (fail)
                  go_wp2
                  go_ret
                  exact ⟨by rw [E.out]; rfl, below_drewN hnx _⟩
              · have hs : sameMsgs a.qs b.qs = false := H2.out (by simp [prM, hf])
                have hne : (f == f') = false := by simp [hf]
                have E : Hid ((sameInts a.ls b.ls && (sameInts a.ds b.ds && sameMsgs a.qs b.qs)) = false) := by show (sameInts a.ls b.ls && (sameInts a.ds b.ds && sameMsgs a.qs b.qs)) = false; simp [hs]
                clear H1 H2 hs
                go_wp2
                go_quiet (fail)
                go_wp2
                go_ret
                exact ⟨by rw [E.out]; rfl, below_drewN hnx _⟩
            · have hke : k = a.qs.length := by omega
              have hsq : sameMsgs a.qs b.qs = true := by
                have := htk.out
                rw [hke, List.take_of_length_le (by rw [List.length_map]; exact Nat.le_refl _), List.take_of_length_le (by rw [List.length_map, ← HLqs.out]; exact Nat.le_refl _)] at this
                unfold sameMsgs
                rw [this]; simp
              have HNqs : Hid (Below w.heap.size w wr) := hnx
              clear hke htk hvx
              have E : Hid ((sameInts a.ls b.ls && (sameInts a.ds b.ds && sameMsgs a.qs b.qs)) = true) := by show _ = _; simp [hsl, hsd, hsq]
              go_wp2
              go_ret
              exact ⟨by rw [E.out]; rfl, HNqs.out⟩
end Go.Proofs.Ytokicnopfmokaaa
namespace Go.Proofs.Ytokicnopfmokaaa
open Go.RowKit
set_option linter.unusedVariables false
set_option maxRecDepth 100000
set_option linter.unusedSimpArgs false

theorem specSame_any (a b : Ob) (l d m l' d' m' : Value) (w : World) (hx : Lists w l d m a) (hy : Lists w l' d' m' b) (hn : obN a ≤ 1048576) :
    Calls Try.prog 24 #[obV a l d m, obV b l' d' m'] w fun e w' => e = .returned (.bool (sameO a b)) ∧ Below w.heap.size w w' := by
  cases v0 : (a.gen != b.gen) with
  | true =>
    have e : sameO a b = false := by
      have h : (a.gen == b.gen) = false := by simpa [bne] using v0
      simp [sameO, sameF, h]
    rw [e]
    exact specSame_no0 a b l d m l' d' m' w hx hy hn  v0
  | false =>
  cases v1 : (a.kind != b.kind) with
  | true =>
    have e : sameO a b = false := by
      have h : (a.kind == b.kind) = false := by simpa [bne] using v1
      simp [sameO, sameF, h]
    rw [e]
    exact specSame_no1 a b l d m l' d' m' w hx hy hn v0 v1
  | false =>
  cases v2 : (a.into != b.into) with
  | true =>
    have e : sameO a b = false := by
      have h : (a.into == b.into) = false := by simpa [bne] using v2
      simp [sameO, sameF, h]
    rw [e]
    exact specSame_no2 a b l d m l' d' m' w hx hy hn v0 v1 v2
  | false =>
  cases v3 : (a.res != b.res) with
  | true =>
    have e : sameO a b = false := by
      have h : (a.res == b.res) = false := by simpa [bne] using v3
      simp [sameO, sameF, h]
    rw [e]
    exact specSame_no3 a b l d m l' d' m' w hx hy hn v0 v1 v2 v3
  | false =>
  cases v4 : (a.unt != b.unt) with
  | true =>
    have e : sameO a b = false := by
      have h : (a.unt == b.unt) = false := by simpa [bne] using v4
      simp [sameO, sameF, h]
    rw [e]
    exact specSame_no4 a b l d m l' d' m' w hx hy hn v0 v1 v2 v3 v4
  | false =>
  cases v5 : (a.pages != b.pages) with
  | true =>
    have e : sameO a b = false := by
      have h : (a.pages == b.pages) = false := by simpa [bne] using v5
      simp [sameO, sameF, h]
    rw [e]
    exact specSame_no5 a b l d m l' d' m' w hx hy hn v0 v1 v2 v3 v4 v5
  | false =>
  cases v6 : (a.wait != b.wait) with
  | true =>
    have e : sameO a b = false := by
      have h : (a.wait == b.wait) = false := by simpa [bne] using v6
      simp [sameO, sameF, h]
    rw [e]
    exact specSame_no6 a b l d m l' d' m' w hx hy hn v0 v1 v2 v3 v4 v5 v6
  | false =>
  cases v7 : (a.got != b.got) with
  | true =>
    have e : sameO a b = false := by
      have h : (a.got == b.got) = false := by simpa [bne] using v7
      simp [sameO, sameF, h]
    rw [e]
    exact specSame_no7 a b l d m l' d' m' w hx hy hn v0 v1 v2 v3 v4 v5 v6 v7
  | false =>
  cases v8 : (a.ran != b.ran) with
  | true =>
    have e : sameO a b = false := by
      have h : (a.ran == b.ran) = false := by simpa [bne] using v8
      simp [sameO, sameF, h]
    rw [e]
    exact specSame_no8 a b l d m l' d' m' w hx hy hn v0 v1 v2 v3 v4 v5 v6 v7 v8
  | false =>
  by_cases v9 : a.mark = b.mark
  case neg =>
    have e : sameO a b = false := by simp [sameO, v9]
    rw [e]
    exact specSame_no9 a b l d m l' d' m' w hx hy hn v0 v1 v2 v3 v4 v5 v6 v7 v8 v9
  have f : sameO a b = (sameInts a.ls b.ls && (sameInts a.ds b.ds && sameMsgs a.qs b.qs)) := by
    simp only [bne_eq_false_iff_eq] at v0 v1 v2 v3 v4 v5 v6 v7 v8
    simp [sameO, sameF, v9, v0, v1, v2, v3, v4, v5, v6, v7, v8]
  rw [f]
  by_cases y0 : a.ls.length = b.ls.length
  case neg =>
    have h : sameInts a.ls b.ls = false := sameInts_no (fun e => y0 (by rw [e]))
    have e : (sameInts a.ls b.ls && (sameInts a.ds b.ds && sameMsgs a.qs b.qs)) = false := by simp [h]
    rw [e]
    exact specSame_no10 a b l d m l' d' m' w hx hy hn v0 v1 v2 v3 v4 v5 v6 v7 v8 v9  y0
  by_cases y1 : a.ds.length = b.ds.length
  case neg =>
    have h : sameInts a.ds b.ds = false := sameInts_no (fun e => y1 (by rw [e]))
    have e : (sameInts a.ls b.ls && (sameInts a.ds b.ds && sameMsgs a.qs b.qs)) = false := by simp [h]
    rw [e]
    exact specSame_no11 a b l d m l' d' m' w hx hy hn v0 v1 v2 v3 v4 v5 v6 v7 v8 v9 y0 y1
  by_cases y2 : a.qs.length = b.qs.length
  case neg =>
    have h : sameMsgs a.qs b.qs = false := sameMsgs_no (fun e => y2 (by have e2 := congrArg List.length e; simpa using e2))
    have e : (sameInts a.ls b.ls && (sameInts a.ds b.ds && sameMsgs a.qs b.qs)) = false := by simp [h]
    rw [e]
    exact specSame_no12 a b l d m l' d' m' w hx hy hn v0 v1 v2 v3 v4 v5 v6 v7 v8 v9 y0 y1 y2
  exact specSame_rest a b l d m l' d' m' w hx hy hn v0 v1 v2 v3 v4 v5 v6 v7 v8 v9 y0 y1 y2
end Go.Proofs.Ytokicnopfmokaaa
namespace Go.Proofs.Ytokicnopfmokaaa
open Go.RowKit
set_option linter.unusedVariables false
set_option maxRecDepth 100000

/-- Are two arenas alike? -/
def sameA (a b : List Ob) : Bool := decide (a.length = b.length) && (List.range a.length).all fun i => sameO (obAt a i) (obAt b i)
theorem sameA_len {a b : List Ob} (h : ¬ a.length = b.length) : sameA a b = false := by unfold sameA; rw [decide_eq_false h]; rfl
theorem sameA_no {a b : List Ob} {k : Nat} (hk : k < a.length) (h : sameO (obAt a k) (obAt b k) = false) : sameA a b = false := by
  have e : (List.range a.length).all (fun i => sameO (obAt a i) (obAt b i)) = false := List.all_eq_false.2 ⟨k, by simpa using hk, by simp [h]⟩
  unfold sameA
  rw [e, Bool.and_false]
theorem sameA_yes {a b : List Ob} (hl : a.length = b.length) (h : ∀ k, k < a.length → sameO (obAt a k) (obAt b k) = true) : sameA a b = true := by
  have e : (List.range a.length).all (fun i => sameO (obAt a i) (obAt b i)) = true := List.all_eq_true.2 fun k hk => h k (by simpa using hk)
  unfold sameA
  rw [e, decide_eq_true hl]; rfl
theorem ent47 : ∀ (a b : Ob) (l d m l' d' m' : Value) w', Sem.run Try.prog (callFunc 58 #[obV a l d m, obV b l' d' m']) w' = .ok (.enter 58 #[obV a l d m, obV b l' d' m']) w' := fun _ _ _ _ _ _ _ _ _ => by rfl
set_option maxRecDepth 100000 in
set_option maxHeartbeats 8000000 in
theorem specSameA_any (v u : Value) (xs8 ys8 : List Ob) (w : World) (hx : IsArena w v xs8) (hy : IsArena w u ys8) (hn : xs8.length ≤ 1048576) (hs : Small8 xs8) :
    Calls Try.prog 7 #[v, u] w fun e w' => e = .returned (.bool (sameA xs8 ys8)) ∧ Below w.heap.size w w' := by
  obtain ⟨pa, ca, rfl, hca, _⟩ := id hx
  obtain ⟨pb, cb, rfl, hcb, _⟩ := id hy
  by_cases hl : xs8.length = ys8.length
  · have HX : Hid (∀ wr, Below w.heap.size w wr → IsArena wr (.slice pa xs8.length ca) xs8) := fun wr hb => hx.on hb
    have HY : Hid (∀ wr, Below w.heap.size w wr → IsArena wr (.slice pb ys8.length cb) ys8) := fun wr hb => hy.on hb
    have HS : Hid (∀ i, obN (obAt xs8 i) ≤ 1048576) := hs
    obtain ⟨n, hn'⟩ : ∃ n, n = xs8.length := ⟨_, rfl⟩
    rw [← hn'] at hl hca HX hn
    rw [← hl] at hcb HY
    have HN : Hid (n = xs8.length ∧ n = ys8.length) := ⟨hn', hl⟩
    have e0 : xs8.length = n := hn'.symm
    have e1 : ys8.length = n := hl.symm
    rw [e0, e1]
    clear hx hy hs hn' hl e0 e1
    go_enter Try.func7, Try.ntmps7
    go_wp2
    go_loopw [5] (fun i wr => ∃ k : Nat, k ≤ n ∧ i = .int .i64 k ∧ Hid (∀ j, j < k → sameO (obAt xs8 j) (obAt ys8 j) = true) ∧ Below w.heap.size w wr) (fun i _ => n - (intOf i).toNat)
    case atStart => exact ⟨0, Nat.zero_le _, rfl, fun j hj => absurd hj (by omega), Below.refl _ _⟩
    case round =>
      obtain ⟨k, hk, rfl, hall, hnx⟩ := hrel
      by_cases hlt : k < n
      · obtain ⟨p, q, l, d, m, rfl, hq, hc, hu⟩ := (HX.out wr hnx).at (by rw [← HN.out.1]; exact hlt : k < xs8.length)
        obtain ⟨p', q', l', d', m', rfl, hq', hc', hu'⟩ := (HY.out wr hnx).at (by rw [← HN.out.2]; exact hlt : k < ys8.length)
        have HA : Hid (sameO (obAt xs8 k) (obAt ys8 k) = true → ∀ j, j < k + 1 → sameO (obAt xs8 j) (obAt ys8 j) = true) := fun h j hj => by
          by_cases e : j = k
          · rw [e]; exact h
          · exact hall.out j (by omega)
        have HNo : Hid (sameO (obAt xs8 k) (obAt ys8 k) = false → sameA xs8 ys8 = false) := fun h => sameA_no (by rw [← HN.out.1]; exact hlt) h
        have hsn := HS.out k
        have C : Hid (∀ w', Below wr.heap.size wr w' → _) := fun w' hb => specSame_any (obAt xs8 k) (obAt ys8 k) _ _ _ _ _ _ w' (hu.on hb) (hu'.on hb) hsn
        generalize obAt xs8 k = x at C HA HNo hc
        generalize obAt ys8 k = y at C HA HNo hc'
        have HQ : Hid (ObCells wr q x l d m) := hc
        have HQ' : Hid (ObCells wr q' y l' d' m') := hc'
        generalize sameO x y = r at C HA HNo
        clear hu hu' hc hc' hsn hall
        go_wp2_with fail
        refine wp_region_whole (by kernel_rfl) (by kernel_rfl) (by kernel_rfl) (by kernel_rfl) (Flat (fun wz => Below w.heap.size w wz ∧ Below wr.heap.size wr wz) (gVals [.slice (some p) n ca, .int .i64 k, .pointer (some q), obV x l d m, .slice (some p') n cb, .int .i64 k, .pointer (some q'), obV y l' d' m', .bool r, .bool (!r)])) (flat_start ⟨hnx.drew, (below_draw wr)⟩) ?_ ?_
        · refine ⟨?_, ?_, ?_, ?_, ?_, ?_, ?_, ?_, ?_, ?_, trivial⟩
          · intro b0 us wz L hslot hoth hLi hR hcl hdo K hK
            have s0 : b0.tmps.getD 0 undef = .slice (some p) n ca := hoth 0 (by rfl)
            clear hslot hoth hdo hcl hLi
            refine guard_none (by rfl) ?_
            go_simp
            exact hK _ _ (flat_mark (hR.1) (fun _ _ h => h) hR.2 rfl)
          · intro b0 us wz L hslot hoth hLi hR hcl hdo K hK
            have s5 : b0.tmps.getD 5 undef = .int .i64 k := hoth 5 (by rfl)
            clear hslot hoth hdo hcl hLi
            refine guard_none (by rfl) ?_
            go_simp
            exact hK _ _ (flat_mark (hR.1) (fun _ _ h => h) hR.2 rfl)
          · intro b0 us wz L hslot hoth hLi hR hcl hdo K hK
            have s17 : b0.tmps.getD 17 undef = .slice (some p) n ca := (hslot 0 17 (by rfl)).trans (hR.2 0 (done_at hdo 0 (by rfl)))
            have s18 : b0.tmps.getD 18 undef = .int .i64 k := (hslot 1 18 (by rfl)).trans (hR.2 1 (done_at hdo 1 (by rfl)))
            clear hslot hoth hdo hcl hLi
            refine guard_none (by rfl) ?_
            go_simp
            exact hK _ _ (flat_mark (hR.1) (fun _ _ h => h) hR.2 rfl)
          · intro b0 us wz L hslot hoth hLi hR hcl hdo K hK
            have s19 : b0.tmps.getD 19 undef = .pointer (some q) := (hslot 2 19 (by rfl)).trans (hR.2 2 (done_at hdo 2 (by rfl)))
            have c := (HQ.out.on hR.1.2)
            have k0 := c.c0
            have k1 := c.c1
            have k2 := c.c2
            have k3 := c.c3
            have k4 := c.c4
            have k5 := c.c5
            have k6 := c.c6
            have k7 := c.c7
            have k8 := c.c8
            have k9 := c.c9
            have k10 := c.c10
            have k11 := c.c11
            have k12 := c.c12
            clear c
            clear hslot hoth hdo hcl hLi
            refine guard_none (by rfl) ?_
            go_simp
            exact hK _ _ (flat_mark (hR.1) (fun _ _ h => h) hR.2 rfl)
          · intro b0 us wz L hslot hoth hLi hR hcl hdo K hK
            have s1 : b0.tmps.getD 1 undef = .slice (some p') n cb := hoth 1 (by rfl)
            clear hslot hoth hdo hcl hLi
            refine guard_none (by rfl) ?_
            go_simp
            exact hK _ _ (flat_mark (hR.1) (fun _ _ h => h) hR.2 rfl)
          · intro b0 us wz L hslot hoth hLi hR hcl hdo K hK
            have s5 : b0.tmps.getD 5 undef = .int .i64 k := hoth 5 (by rfl)
            clear hslot hoth hdo hcl hLi
            refine guard_none (by rfl) ?_
            go_simp
            exact hK _ _ (flat_mark (hR.1) (fun _ _ h => h) hR.2 rfl)
          · intro b0 us wz L hslot hoth hLi hR hcl hdo K hK
            have s21 : b0.tmps.getD 21 undef = .slice (some p') n cb := (hslot 4 21 (by rfl)).trans (hR.2 4 (done_at hdo 4 (by rfl)))
            have s22 : b0.tmps.getD 22 undef = .int .i64 k := (hslot 5 22 (by rfl)).trans (hR.2 5 (done_at hdo 5 (by rfl)))
            clear hslot hoth hdo hcl hLi
            refine guard_none (by rfl) ?_
            go_simp
            exact hK _ _ (flat_mark (hR.1) (fun _ _ h => h) hR.2 rfl)
          · intro b0 us wz L hslot hoth hLi hR hcl hdo K hK
            have s23 : b0.tmps.getD 23 undef = .pointer (some q') := (hslot 6 23 (by rfl)).trans (hR.2 6 (done_at hdo 6 (by rfl)))
            have c := (HQ'.out.on hR.1.2)
            have k0 := c.c0
            have k1 := c.c1
            have k2 := c.c2
            have k3 := c.c3
            have k4 := c.c4
            have k5 := c.c5
            have k6 := c.c6
            have k7 := c.c7
            have k8 := c.c8
            have k9 := c.c9
            have k10 := c.c10
            have k11 := c.c11
            have k12 := c.c12
            clear c
            clear hslot hoth hdo hcl hLi
            refine guard_none (by rfl) ?_
            go_simp
            exact hK _ _ (flat_mark (hR.1) (fun _ _ h => h) hR.2 rfl)
          · intro b0 us wz L hslot hoth hLi hR hcl hdo K hK
            have s20 : b0.tmps.getD 20 undef = obV x l d m := (hslot 3 20 (by rfl)).trans (hR.2 3 (done_at hdo 3 (by rfl)))
            have s24 : b0.tmps.getD 24 undef = obV y l' d' m' := (hslot 7 24 (by rfl)).trans (hR.2 7 (done_at hdo 7 (by rfl)))
            clear hslot hoth hdo hcl hLi
            refine guard_none (by rfl) ?_
            go_simp
            refine (C.out _ hR.1.2).mono ?_
            rintro e w' ⟨rfl, hb⟩
            exact hK _ _ (flat_mark ⟨below_more hR.1.1 hb, below_more hR.1.2 hb⟩ (fun _ _ h => h) hR.2 rfl)
          · intro b0 us wz L hslot hoth hLi hR hcl hdo K hK
            have s25 : b0.tmps.getD 25 undef = .bool r := (hslot 8 25 (by rfl)).trans (hR.2 8 (done_at hdo 8 (by rfl)))
            clear hslot hoth hdo hcl hLi
            refine guard_none (by rfl) ?_
            go_simp
            exact hK _ _ (flat_mark (hR.1) (fun _ _ h => h) hR.2 rfl)
        · intro us wn L hall hR a' ha'
          have g0 : us 0 = .slice (some p) n ca := hR.2 0 (hall 0 (by decide))
          have g1 : us 1 = .int .i64 k := hR.2 1 (hall 1 (by decide))
          have g2 : us 2 = .pointer (some q) := hR.2 2 (hall 2 (by decide))
          have g3 : us 3 = obV x l d m := hR.2 3 (hall 3 (by decide))
          have g4 : us 4 = .slice (some p') n cb := hR.2 4 (hall 4 (by decide))
          have g5 : us 5 = .int .i64 k := hR.2 5 (hall 5 (by decide))
          have g6 : us 6 = .pointer (some q') := hR.2 6 (hall 6 (by decide))
          have g7 : us 7 = obV y l' d' m' := hR.2 7 (hall 7 (by decide))
          have g8 : us 8 = .bool r := hR.2 8 (hall 8 (by decide))
          have g9 : us 9 = .bool (!r) := hR.2 9 (hall 9 (by decide))
          have HB1 : Hid (Below w.heap.size w wn) := hR.1.1
          clear hR hall
          simp only [putAll, g0, g1, g2, g3, g4, g5, g6, g7, g8, g9] at ha'
          subst ha'
          go_frame
          clear hq hq' HQ HQ' C
          cases r with
          | true =>
            have HA2 := hid_of (HA.out rfl)
            clear HA HNo
            go_wp2
            exact ⟨⟨k + 1, by omega, by go_num, HA2, HB1.out⟩, by simp [intOf]; omega⟩
          | false =>
            have E := hid_of (HNo.out rfl)
            clear HA HNo
            go_wp2
            go_ret
            exact ⟨by rw [E.out]; rfl, HB1.out⟩
      · obtain rfl : k = n := by omega
        have E : Hid (sameA xs8 ys8 = true) := sameA_yes (by rw [← HN.out.1, ← HN.out.2]) (fun j hj => hall.out j (by rw [HN.out.1]; exact hj))
        clear hall
        go_wp2
        go_ret
        exact ⟨by rw [E.out]; rfl, hnx⟩
  · rw [sameA_len hl]
    have hne : ((xs8.length : Int) != (ys8.length : Int)) = true := by simp; omega
    clear hx hy hs hl
    go_enter Try.func7, Try.ntmps7
    go_wp2
    go_ret
    exact ⟨rfl, Below.refl _ _⟩
end Go.Proofs.Ytokicnopfmokaaa
