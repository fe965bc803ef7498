/-
  Two things held against each other: the model.
-/
import Derived.Test.YtokicnopfmokaaaSameI
namespace Go.Proofs.Ytokicnopfmokaaa
open Go.RowKit
set_option linter.unusedVariables false
set_option maxRecDepth 100000
set_option linter.unusedSimpArgs false

set_option maxRecDepth 100000 in
set_option maxHeartbeats 20000000 in
theorem specSame_no4 (a b : Ob) (l d m l' d' m' : Value) (w : World) (hx : Lists w l d m a) (hy : Lists w l' d' m' b) (hn : obN a ≤ 1048576) (v0 : (a.gen != b.gen) = false) (v1 : (a.kind != b.kind) = false) (v2 : (a.into != b.into) = false) (v3 : (a.res != b.res) = false) (dd : (a.unt != b.unt) = true) :
    Calls Try.prog 24 #[obV a l d m, obV b l' d' m'] w fun e w' => e = .returned (.bool false) ∧ Below w.heap.size w w' := by
  have hx0 := hx
  have hy0 := hy
  obtain ⟨⟨la, ca, rfl, hca, _⟩, ⟨da, ca', rfl, hca', _⟩, ⟨ma, ca'', rfl, hca'', _⟩⟩ := hx
  obtain ⟨⟨lb, cb, rfl, hcb, _⟩, ⟨db, cb', rfl, hcb', _⟩, ⟨mb, cb'', rfl, hcb'', _⟩⟩ := hy
  have hb0 : Below w.heap.size w ((w.alloc (boxO a (.slice la a.ls.length ca) (.slice da a.ds.length ca') (.slice ma a.qs.length ca''))).alloc (boxO b (.slice lb b.ls.length cb) (.slice db b.ds.length cb') (.slice mb b.qs.length cb''))) := by go_grown
  obtain ⟨V, hV⟩ : ∃ V, V = ((w.alloc (boxO a (.slice la a.ls.length ca) (.slice da a.ds.length ca') (.slice ma a.qs.length ca''))).alloc (boxO b (.slice lb b.ls.length cb) (.slice db b.ds.length cb') (.slice mb b.qs.length cb''))) := ⟨_, rfl⟩
  have hb1 : Below w.heap.size w V := by rw [hV]; exact hb0
  have HB : Hid (Below w.heap.size w V) := hb1
  have HA : Hid (∀ wr, Below V.heap.size V wr → Box13 wr w.heap.size a (.slice la a.ls.length ca) (.slice da a.ds.length ca') (.slice ma a.qs.length ca'')) := fun wr hb => by
    have h : Box13 V w.heap.size a (.slice la a.ls.length ca) (.slice da a.ds.length ca') (.slice ma a.qs.length ca'') := ⟨by rw [hV]; exact keep (heap_alloc_new w _) (below_alloc _ _)⟩
    exact h.on hb
  have HC : Hid (∀ wr, Below V.heap.size V wr → Box13 wr (w.heap.size + 1) b (.slice lb b.ls.length cb) (.slice db b.ds.length cb') (.slice mb b.qs.length cb'')) := fun wr hb => by
    have h : Box13 V (w.heap.size + 1) b (.slice lb b.ls.length cb) (.slice db b.ds.length cb') (.slice mb b.qs.length cb'') := ⟨by rw [hV]; have := heap_alloc_new (w.alloc (boxO a (.slice la a.ls.length ca) (.slice da a.ds.length ca') (.slice ma a.qs.length ca''))) (boxO b (.slice lb b.ls.length cb) (.slice db b.ds.length cb') (.slice mb b.qs.length cb'')); simpa using this⟩
    exact h.on hb
  have HI1 : Hid (∀ i, i < a.ls.length → ∃ p, la = some p ∧ V.cell? (p.add i) = some (.int .i64 (a.ls.getD i 0))) := fun i hi => by
    obtain ⟨_, _, hv, _, h⟩ := (hx0.on hb1).ls
    cases hv
    exact h i hi
  have HD1 : Hid (∀ i, i < a.ds.length → ∃ p, da = some p ∧ V.cell? (p.add i) = some (.int .i64 (a.ds.getD i 0))) := fun i hi => by
    obtain ⟨_, _, hv, _, h⟩ := (hx0.on hb1).ds
    cases hv
    exact h i hi
  have HI2 : Hid (∀ i, i < b.ls.length → ∃ p, lb = some p ∧ V.cell? (p.add i) = some (.int .i64 (b.ls.getD i 0))) := fun i hi => by
    obtain ⟨_, _, hv, _, h⟩ := (hy0.on hb1).ls
    cases hv
    exact h i hi
  have HD2 : Hid (∀ i, i < b.ds.length → ∃ p, db = some p ∧ V.cell? (p.add i) = some (.int .i64 (b.ds.getD i 0))) := fun i hi => by
    obtain ⟨_, _, hv, _, h⟩ := (hy0.on hb1).ds
    cases hv
    exact h i hi
  have HQ1 : Hid (∀ i, i < a.qs.length → ∃ p, ma = some p ∧ V.cell? (p.add (i * 2)) = some (.int .i64 (msAt a.qs i).f) ∧ V.cell? ⟨(p.add (i * 2)).block, (p.add (i * 2)).off + 1, none⟩ = some (.int .i64 (msAt a.qs i).n)) := fun i hi => by
    obtain ⟨_, _, hv, _, h⟩ := (hx0.on hb1).qs
    cases hv
    exact h i hi
  have HQ2 : Hid (∀ i, i < b.qs.length → ∃ p, mb = some p ∧ V.cell? (p.add (i * 2)) = some (.int .i64 (msAt b.qs i).f) ∧ V.cell? ⟨(p.add (i * 2)).block, (p.add (i * 2)).off + 1, none⟩ = some (.int .i64 (msAt b.qs i).n)) := fun i hi => by
    obtain ⟨_, _, hv, _, h⟩ := (hy0.on hb1).qs
    cases hv
    exact h i hi
  unfold obN at hn
  clear hx0 hy0 hb0 hb1
  go_enter Try.func24, Try.ntmps24
  repeat (first | (with_reducible refine halt_region (id := 1) ?_) | go_values | go_skip | go_guarded | go_step | go_upon | go_back)
  unfold Halt0
  rw [← hV]
  clear hV
  have ka0 := (HA.out _ (Below.refl _ _)).c0
  have kb0 := (HC.out _ (Below.refl _ _)).c0
  have ka1 := (HA.out _ (Below.refl _ _)).c1
  have kb1 := (HC.out _ (Below.refl _ _)).c1
  have ka2 := (HA.out _ (Below.refl _ _)).c2
  have kb2 := (HC.out _ (Below.refl _ _)).c2
  have ka3 := (HA.out _ (Below.refl _ _)).c3
  have kb3 := (HC.out _ (Below.refl _ _)).c3
  have ka4 := (HA.out _ (Below.refl _ _)).c4
  have kb4 := (HC.out _ (Below.refl _ _)).c4
  have ka5 := (HA.out _ (Below.refl _ _)).c5
  have kb5 := (HC.out _ (Below.refl _ _)).c5
  have ka6 := (HA.out _ (Below.refl _ _)).c6
  have kb6 := (HC.out _ (Below.refl _ _)).c6
  have ka7 := (HA.out _ (Below.refl _ _)).c7
  have kb7 := (HC.out _ (Below.refl _ _)).c7
  have ka8 := (HA.out _ (Below.refl _ _)).c8
  have kb8 := (HC.out _ (Below.refl _ _)).c8
  have ka9 := (HA.out _ (Below.refl _ _)).c9
  have kb9 := (HC.out _ (Below.refl _ _)).c9
  have ka10 := (HA.out _ (Below.refl _ _)).c10
  have kb10 := (HC.out _ (Below.refl _ _)).c10
  have ka11 := (HA.out _ (Below.refl _ _)).c11
  have kb11 := (HC.out _ (Below.refl _ _)).c11
  have ka12 := (HA.out _ (Below.refl _ _)).c12
  have kb12 := (HC.out _ (Below.refl _ _)).c12
  clear HI1 HI2 HD1 HD2 HQ1 HQ2
  go_wp2
  go_ret
  exact ⟨rfl, HB.out⟩
set_option maxRecDepth 100000 in
set_option maxHeartbeats 20000000 in
theorem specSame_no5 (a b : Ob) (l d m l' d' m' : Value) (w : World) (hx : Lists w l d m a) (hy : Lists w l' d' m' b) (hn : obN a ≤ 1048576) (v0 : (a.gen != b.gen) = false) (v1 : (a.kind != b.kind) = false) (v2 : (a.into != b.into) = false) (v3 : (a.res != b.res) = false) (v4 : (a.unt != b.unt) = false) (dd : (a.pages != b.pages) = true) :
    Calls Try.prog 24 #[obV a l d m, obV b l' d' m'] w fun e w' => e = .returned (.bool false) ∧ Below w.heap.size w w' := by
  have hx0 := hx
  have hy0 := hy
  obtain ⟨⟨la, ca, rfl, hca, _⟩, ⟨da, ca', rfl, hca', _⟩, ⟨ma, ca'', rfl, hca'', _⟩⟩ := hx
  obtain ⟨⟨lb, cb, rfl, hcb, _⟩, ⟨db, cb', rfl, hcb', _⟩, ⟨mb, cb'', rfl, hcb'', _⟩⟩ := hy
  have hb0 : Below w.heap.size w ((w.alloc (boxO a (.slice la a.ls.length ca) (.slice da a.ds.length ca') (.slice ma a.qs.length ca''))).alloc (boxO b (.slice lb b.ls.length cb) (.slice db b.ds.length cb') (.slice mb b.qs.length cb''))) := by go_grown
  obtain ⟨V, hV⟩ : ∃ V, V = ((w.alloc (boxO a (.slice la a.ls.length ca) (.slice da a.ds.length ca') (.slice ma a.qs.length ca''))).alloc (boxO b (.slice lb b.ls.length cb) (.slice db b.ds.length cb') (.slice mb b.qs.length cb''))) := ⟨_, rfl⟩
  have hb1 : Below w.heap.size w V := by rw [hV]; exact hb0
  have HB : Hid (Below w.heap.size w V) := hb1
  have HA : Hid (∀ wr, Below V.heap.size V wr → Box13 wr w.heap.size a (.slice la a.ls.length ca) (.slice da a.ds.length ca') (.slice ma a.qs.length ca'')) := fun wr hb => by
    have h : Box13 V w.heap.size a (.slice la a.ls.length ca) (.slice da a.ds.length ca') (.slice ma a.qs.length ca'') := ⟨by rw [hV]; exact keep (heap_alloc_new w _) (below_alloc _ _)⟩
    exact h.on hb
  have HC : Hid (∀ wr, Below V.heap.size V wr → Box13 wr (w.heap.size + 1) b (.slice lb b.ls.length cb) (.slice db b.ds.length cb') (.slice mb b.qs.length cb'')) := fun wr hb => by
    have h : Box13 V (w.heap.size + 1) b (.slice lb b.ls.length cb) (.slice db b.ds.length cb') (.slice mb b.qs.length cb'') := ⟨by rw [hV]; have := heap_alloc_new (w.alloc (boxO a (.slice la a.ls.length ca) (.slice da a.ds.length ca') (.slice ma a.qs.length ca''))) (boxO b (.slice lb b.ls.length cb) (.slice db b.ds.length cb') (.slice mb b.qs.length cb'')); simpa using this⟩
    exact h.on hb
  have HI1 : Hid (∀ i, i < a.ls.length → ∃ p, la = some p ∧ V.cell? (p.add i) = some (.int .i64 (a.ls.getD i 0))) := fun i hi => by
    obtain ⟨_, _, hv, _, h⟩ := (hx0.on hb1).ls
    cases hv
    exact h i hi
  have HD1 : Hid (∀ i, i < a.ds.length → ∃ p, da = some p ∧ V.cell? (p.add i) = some (.int .i64 (a.ds.getD i 0))) := fun i hi => by
    obtain ⟨_, _, hv, _, h⟩ := (hx0.on hb1).ds
    cases hv
    exact h i hi
  have HI2 : Hid (∀ i, i < b.ls.length → ∃ p, lb = some p ∧ V.cell? (p.add i) = some (.int .i64 (b.ls.getD i 0))) := fun i hi => by
    obtain ⟨_, _, hv, _, h⟩ := (hy0.on hb1).ls
    cases hv
    exact h i hi
  have HD2 : Hid (∀ i, i < b.ds.length → ∃ p, db = some p ∧ V.cell? (p.add i) = some (.int .i64 (b.ds.getD i 0))) := fun i hi => by
    obtain ⟨_, _, hv, _, h⟩ := (hy0.on hb1).ds
    cases hv
    exact h i hi
  have HQ1 : Hid (∀ i, i < a.qs.length → ∃ p, ma = some p ∧ V.cell? (p.add (i * 2)) = some (.int .i64 (msAt a.qs i).f) ∧ V.cell? ⟨(p.add (i * 2)).block, (p.add (i * 2)).off + 1, none⟩ = some (.int .i64 (msAt a.qs i).n)) := fun i hi => by
    obtain ⟨_, _, hv, _, h⟩ := (hx0.on hb1).qs
    cases hv
    exact h i hi
  have HQ2 : Hid (∀ i, i < b.qs.length → ∃ p, mb = some p ∧ V.cell? (p.add (i * 2)) = some (.int .i64 (msAt b.qs i).f) ∧ V.cell? ⟨(p.add (i * 2)).block, (p.add (i * 2)).off + 1, none⟩ = some (.int .i64 (msAt b.qs i).n)) := fun i hi => by
    obtain ⟨_, _, hv, _, h⟩ := (hy0.on hb1).qs
    cases hv
    exact h i hi
  unfold obN at hn
  clear hx0 hy0 hb0 hb1
  go_enter Try.func24, Try.ntmps24
  repeat (first | (with_reducible refine halt_region (id := 1) ?_) | go_values | go_skip | go_guarded | go_step | go_upon | go_back)
  unfold Halt0
  rw [← hV]
  clear hV
  have ka0 := (HA.out _ (Below.refl _ _)).c0
  have kb0 := (HC.out _ (Below.refl _ _)).c0
  have ka1 := (HA.out _ (Below.refl _ _)).c1
  have kb1 := (HC.out _ (Below.refl _ _)).c1
  have ka2 := (HA.out _ (Below.refl _ _)).c2
  have kb2 := (HC.out _ (Below.refl _ _)).c2
  have ka3 := (HA.out _ (Below.refl _ _)).c3
  have kb3 := (HC.out _ (Below.refl _ _)).c3
  have ka4 := (HA.out _ (Below.refl _ _)).c4
  have kb4 := (HC.out _ (Below.refl _ _)).c4
  have ka5 := (HA.out _ (Below.refl _ _)).c5
  have kb5 := (HC.out _ (Below.refl _ _)).c5
  have ka6 := (HA.out _ (Below.refl _ _)).c6
  have kb6 := (HC.out _ (Below.refl _ _)).c6
  have ka7 := (HA.out _ (Below.refl _ _)).c7
  have kb7 := (HC.out _ (Below.refl _ _)).c7
  have ka8 := (HA.out _ (Below.refl _ _)).c8
  have kb8 := (HC.out _ (Below.refl _ _)).c8
  have ka9 := (HA.out _ (Below.refl _ _)).c9
  have kb9 := (HC.out _ (Below.refl _ _)).c9
  have ka10 := (HA.out _ (Below.refl _ _)).c10
  have kb10 := (HC.out _ (Below.refl _ _)).c10
  have ka11 := (HA.out _ (Below.refl _ _)).c11
  have kb11 := (HC.out _ (Below.refl _ _)).c11
  have ka12 := (HA.out _ (Below.refl _ _)).c12
  have kb12 := (HC.out _ (Below.refl _ _)).c12
  clear HI1 HI2 HD1 HD2 HQ1 HQ2
  go_wp2
  go_ret
  exact ⟨rfl, HB.out⟩
set_option maxRecDepth 100000 in
set_option maxHeartbeats 20000000 in
theorem specSame_no6 (a b : Ob) (l d m l' d' m' : Value) (w : World) (hx : Lists w l d m a) (hy : Lists w l' d' m' b) (hn : obN a ≤ 1048576) (v0 : (a.gen != b.gen) = false) (v1 : (a.kind != b.kind) = false) (v2 : (a.into != b.into) = false) (v3 : (a.res != b.res) = false) (v4 : (a.unt != b.unt) = false) (v5 : (a.pages != b.pages) = false) (dd : (a.wait != b.wait) = true) :
    Calls Try.prog 24 #[obV a l d m, obV b l' d' m'] w fun e w' => e = .returned (.bool false) ∧ Below w.heap.size w w' := by
  have hx0 := hx
  have hy0 := hy
  obtain ⟨⟨la, ca, rfl, hca, _⟩, ⟨da, ca', rfl, hca', _⟩, ⟨ma, ca'', rfl, hca'', _⟩⟩ := hx
  obtain ⟨⟨lb, cb, rfl, hcb, _⟩, ⟨db, cb', rfl, hcb', _⟩, ⟨mb, cb'', rfl, hcb'', _⟩⟩ := hy
  have hb0 : Below w.heap.size w ((w.alloc (boxO a (.slice la a.ls.length ca) (.slice da a.ds.length ca') (.slice ma a.qs.length ca''))).alloc (boxO b (.slice lb b.ls.length cb) (.slice db b.ds.length cb') (.slice mb b.qs.length cb''))) := by go_grown
  obtain ⟨V, hV⟩ : ∃ V, V = ((w.alloc (boxO a (.slice la a.ls.length ca) (.slice da a.ds.length ca') (.slice ma a.qs.length ca''))).alloc (boxO b (.slice lb b.ls.length cb) (.slice db b.ds.length cb') (.slice mb b.qs.length cb''))) := ⟨_, rfl⟩
  have hb1 : Below w.heap.size w V := by rw [hV]; exact hb0
  have HB : Hid (Below w.heap.size w V) := hb1
  have HA : Hid (∀ wr, Below V.heap.size V wr → Box13 wr w.heap.size a (.slice la a.ls.length ca) (.slice da a.ds.length ca') (.slice ma a.qs.length ca'')) := fun wr hb => by
    have h : Box13 V w.heap.size a (.slice la a.ls.length ca) (.slice da a.ds.length ca') (.slice ma a.qs.length ca'') := ⟨by rw [hV]; exact keep (heap_alloc_new w _) (below_alloc _ _)⟩
    exact h.on hb
  have HC : Hid (∀ wr, Below V.heap.size V wr → Box13 wr (w.heap.size + 1) b (.slice lb b.ls.length cb) (.slice db b.ds.length cb') (.slice mb b.qs.length cb'')) := fun wr hb => by
    have h : Box13 V (w.heap.size + 1) b (.slice lb b.ls.length cb) (.slice db b.ds.length cb') (.slice mb b.qs.length cb'') := ⟨by rw [hV]; have := heap_alloc_new (w.alloc (boxO a (.slice la a.ls.length ca) (.slice da a.ds.length ca') (.slice ma a.qs.length ca''))) (boxO b (.slice lb b.ls.length cb) (.slice db b.ds.length cb') (.slice mb b.qs.length cb'')); simpa using this⟩
    exact h.on hb
  have HI1 : Hid (∀ i, i < a.ls.length → ∃ p, la = some p ∧ V.cell? (p.add i) = some (.int .i64 (a.ls.getD i 0))) := fun i hi => by
    obtain ⟨_, _, hv, _, h⟩ := (hx0.on hb1).ls
    cases hv
    exact h i hi
  have HD1 : Hid (∀ i, i < a.ds.length → ∃ p, da = some p ∧ V.cell? (p.add i) = some (.int .i64 (a.ds.getD i 0))) := fun i hi => by
    obtain ⟨_, _, hv, _, h⟩ := (hx0.on hb1).ds
    cases hv
    exact h i hi
  have HI2 : Hid (∀ i, i < b.ls.length → ∃ p, lb = some p ∧ V.cell? (p.add i) = some (.int .i64 (b.ls.getD i 0))) := fun i hi => by
    obtain ⟨_, _, hv, _, h⟩ := (hy0.on hb1).ls
    cases hv
    exact h i hi
  have HD2 : Hid (∀ i, i < b.ds.length → ∃ p, db = some p ∧ V.cell? (p.add i) = some (.int .i64 (b.ds.getD i 0))) := fun i hi => by
    obtain ⟨_, _, hv, _, h⟩ := (hy0.on hb1).ds
    cases hv
    exact h i hi
  have HQ1 : Hid (∀ i, i < a.qs.length → ∃ p, ma = some p ∧ V.cell? (p.add (i * 2)) = some (.int .i64 (msAt a.qs i).f) ∧ V.cell? ⟨(p.add (i * 2)).block, (p.add (i * 2)).off + 1, none⟩ = some (.int .i64 (msAt a.qs i).n)) := fun i hi => by
    obtain ⟨_, _, hv, _, h⟩ := (hx0.on hb1).qs
    cases hv
    exact h i hi
  have HQ2 : Hid (∀ i, i < b.qs.length → ∃ p, mb = some p ∧ V.cell? (p.add (i * 2)) = some (.int .i64 (msAt b.qs i).f) ∧ V.cell? ⟨(p.add (i * 2)).block, (p.add (i * 2)).off + 1, none⟩ = some (.int .i64 (msAt b.qs i).n)) := fun i hi => by
    obtain ⟨_, _, hv, _, h⟩ := (hy0.on hb1).qs
    cases hv
    exact h i hi
  unfold obN at hn
  clear hx0 hy0 hb0 hb1
  go_enter Try.func24, Try.ntmps24
  repeat (first | (with_reducible refine halt_region (id := 1) ?_) | go_values | go_skip | go_guarded | go_step | go_upon | go_back)
  unfold Halt0
  rw [← hV]
  clear hV
  have ka0 := (HA.out _ (Below.refl _ _)).c0
  have kb0 := (HC.out _ (Below.refl _ _)).c0
  have ka1 := (HA.out _ (Below.refl _ _)).c1
  have kb1 := (HC.out _ (Below.refl _ _)).c1
  have ka2 := (HA.out _ (Below.refl _ _)).c2
  have kb2 := (HC.out _ (Below.refl _ _)).c2
  have ka3 := (HA.out _ (Below.refl _ _)).c3
  have kb3 := (HC.out _ (Below.refl _ _)).c3
  have ka4 := (HA.out _ (Below.refl _ _)).c4
  have kb4 := (HC.out _ (Below.refl _ _)).c4
  have ka5 := (HA.out _ (Below.refl _ _)).c5
  have kb5 := (HC.out _ (Below.refl _ _)).c5
  have ka6 := (HA.out _ (Below.refl _ _)).c6
  have kb6 := (HC.out _ (Below.refl _ _)).c6
  have ka7 := (HA.out _ (Below.refl _ _)).c7
  have kb7 := (HC.out _ (Below.refl _ _)).c7
  have ka8 := (HA.out _ (Below.refl _ _)).c8
  have kb8 := (HC.out _ (Below.refl _ _)).c8
  have ka9 := (HA.out _ (Below.refl _ _)).c9
  have kb9 := (HC.out _ (Below.refl _ _)).c9
  have ka10 := (HA.out _ (Below.refl _ _)).c10
  have kb10 := (HC.out _ (Below.refl _ _)).c10
  have ka11 := (HA.out _ (Below.refl _ _)).c11
  have kb11 := (HC.out _ (Below.refl _ _)).c11
  have ka12 := (HA.out _ (Below.refl _ _)).c12
  have kb12 := (HC.out _ (Below.refl _ _)).c12
  clear HI1 HI2 HD1 HD2 HQ1 HQ2
  go_wp2
  go_ret
  exact ⟨rfl, HB.out⟩
end Go.Proofs.Ytokicnopfmokaaa
