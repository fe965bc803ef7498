/-
  TapMove: what the program answers.
-/
import Derived.Test.YtfcenombphodbaaDoorMoveA
namespace Go.Proofs.YtfcenombphodbaaDoor
open Go.RowKit
set_option linter.unusedVariables false
set_option maxRecDepth 100000

set_option maxRecDepth 100000 in
set_option maxHeartbeats 16000000 in
theorem implMove_yes (p0 : Addr) (n cap : Nat) (tss : List (List Re)) (m pn rn : Nat) (q h k t : Int) (w : World) (hx : IsWood w (.slice (some p0) n cap) tss) (hn : n = tss.length) (hn3 : n ≤ 3) (hcap : n ≤ cap) (hm : m < n) (hp : pn < n) (hr : rn < 5) (hall : tss.all treeOk = true) (htap : tapOk rn pn q h k t = true) (hlive : liveIn (treeAt tss m) rn = true) (hse : Sent w) :
    Calls Tryd.prog 6 #[.slice (some p0) n cap, .int .i64 (m : Int), tapV rn pn q h k t] w fun e w' => MoveAns (moveOf tss m rn pn q h k t) (moveM tss m rn pn q h k t) w e w' := by
  have hmay : mayB tss m rn pn q h k t = true := by rw [mayB_rest hall (by omega) htap (by omega) (by omega)]; exact hlive
  have H5 : Hid (∀ i, i < n → (treeAt tss i).length = 5) := fun i hi => treeOk_five (all_at hall (by omega))
  have HTL : Hid (∀ i, (treeAt tss i).length ≤ 1048576) := fun i => by
    by_cases hi : i < n
    · rw [H5.out i hi]; omega
    · simp [treeAt, List.getD, List.getElem?_eq_none (by omega : tss.length ≤ i)]
  have HNL : Hid (n = tss.length) := hn
  obtain ⟨ts, hts⟩ : ∃ x, x = treeAt tss m := ⟨_, rfl⟩
  obtain ⟨re, hre⟩ : ∃ x, x = reAt ts rn := ⟨_, rfl⟩
  obtain ⟨l1, p1, ra, rb, rc⟩ := re
  obtain ⟨N, hN⟩ : ∃ x, x = flowOf rn pn q h k t ra rb rc := ⟨_, rfl⟩
  obtain ⟨A, hA⟩ : ∃ x, x = oneA h N := ⟨_, rfl⟩
  obtain ⟨B, hB⟩ : ∃ x, x = oneB h N := ⟨_, rfl⟩
  obtain ⟨C, hC⟩ : ∃ x, x = oneC h N := ⟨_, rfl⟩
  obtain ⟨ns, hns⟩ : ∃ x, x = payOf ts rn A B C := ⟨_, rfl⟩
  obtain ⟨po, hpo⟩ : ∃ x, x = payOk ts rn A B C := ⟨_, rfl⟩
  obtain ⟨t1, ht1⟩ : ∃ x, x = treeAt (tss.set m ns) pn := ⟨_, rfl⟩
  obtain ⟨bo, hbo⟩ : ∃ x, x = backOk t1 A B C := ⟨_, rfl⟩
  obtain ⟨bs, hbs⟩ : ∃ x, x = backOf t1 q A B C := ⟨_, rfl⟩
  have HTS : Hid (treeAt tss m = ts ∧ ts.length = 5) := ⟨hts.symm, by rw [hts]; exact H5.out m hm⟩
  have HNS : Hid (ns.length = 5) := by show ns.length = 5; rw [hns, payOf_length]; exact HTS.out.2
  have HT1 : Hid (treeAt (tss.set m ns) pn = t1 ∧ t1.length = 5) := ⟨ht1.symm, by rw [ht1, treeAt_set_len (by rw [HNS.out, HTS.out.1, HTS.out.2])]; exact H5.out pn hp⟩
  have HBS : Hid (bs.length = 5) := by show bs.length = 5; rw [hbs, backOf_length]; exact HT1.out.2
  have HRE : Hid (reAt ts rn = ⟨l1, p1, ra, rb, rc⟩) := hre.symm
  have e0 : balAt tss m rn = ⟨l1, p1, ra, rb, rc⟩ := by unfold balAt; simp only [Int.toNat_natCast]; rw [← hts, ← hre]
  have e1 : moveN tss m rn pn q h k t = N := by unfold moveN; rw [e0]; exact hN.symm
  have e2 : paidOf tss m rn pn q h k t = tss.set m ns := by unfold paidOf; rw [e1]; simp only [Int.toNat_natCast]; rw [← hts, ← hA, ← hB, ← hC, ← hns]
  have e3 : moveB tss m rn pn q h k t = bo := by unfold moveB backB; rw [hmay, e1, e2]; simp only [Int.toNat_natCast]; rw [← ht1, ← hA, ← hB, ← hC, ← hbo]; rfl
  have HF1 : Hid (bo = true → moveOf tss m rn pn q h k t = (tss.set m ns).set pn bs ∧ moveM tss m rn pn q h k t = N) := fun e => by
    unfold moveOf moveM
    rw [e3, e, e1, e2]
    refine ⟨?_, if_pos rfl⟩
    rw [if_pos rfl]
    simp only [Int.toNat_natCast]
    rw [← ht1, ← hA, ← hB, ← hC, ← hbs]
  have HF2 : Hid (bo = false → moveOf tss m rn pn q h k t = tss ∧ moveM tss m rn pn q h k t = 0) := fun e => ⟨moveOf_no (by rw [e3]; exact e), moveM_no (by rw [e3]; exact e)⟩
  have HSE : Hid (Sent w) := hse
  have CC : Hid (∀ w', IsWood w' (.slice (some p0) n cap) tss → Calls Tryd.prog 18 #[.slice (some p0) n cap] w' fun e w'' => ∃ g c fs rest, e = .returned (.slice (some ⟨g, 0, none⟩) n c) ∧ leafTs fs = tss ∧ OwnW g c fs rest w'.heap.size w''.heap.size w'' ∧ Below w'.heap.size w' w'') := fun w' hb => by
    rw [HNL.out] at hb ⊢
    exact implCopies_any p0 cap tss w' hb (by have := HNL.out; omega) HTL.out
  have CF : Hid (∀ w', Calls Tryd.prog 13 #[tapV rn pn q h k t, amt ra rb rc] w' fun e w'' => e = .returned (.int .i64 N) ∧ Below w'.heap.size w' w'') := fun w' => by rw [hN]; exact implFlow_any rn pn q h k t ra rb rc w'
  have CO := fun w' => (by rw [hA, hB, hC]; exact implOne_b h N w' : Calls Tryd.prog 20 #[.int .i64 h, .int .i64 N] w' fun r w'' => r = .returned (amt A B C) ∧ Below w'.heap.size w' w'')
  have CP : Hid (∀ p c w', IsTree w' (.slice (some p) 5 c) ts → Sent w' → Calls Tryd.prog 21 #[.slice (some p) 5 c, .int .i64 (rn : Int), amt A B C] w' fun e w'' => TreeAns ns.length ns po w' e w'') := fun p c w' hi hs => by
    have hl := HTS.out.2
    have hx := hi
    rw [← hl] at hx ⊢
    rw [hns, hpo]
    exact (implTreePay_any p c ts rn A B C w' hx (by omega) hs).mono fun e w'' h => h.form (by rw [payOf_length])
  have CB : Hid (∀ p c w', IsTree w' (.slice (some p) 5 c) t1 → Calls Tryd.prog 22 #[.slice (some p) 5 c, .int .i64 q, amt A B C] w' fun e w'' => TreeAns bs.length bs bo w' e w'') := fun p c w' hi => by
    have hl := HT1.out.2
    have hx := hi
    rw [← hl] at hx ⊢
    rw [hbs, hbo]
    exact (implBack_any p c t1 q A B C w' hx (by omega)).mono fun e w'' h => h.form (by rw [backOf_length])
  obtain ⟨qa, qb, qc, hq, hc, hu⟩ := hx.at (i := m) (by omega)
  rw [← hts] at hc hu
  have HQA : Hid (p0.add m = qa) := hq
  have hl5 := HTS.out.2
  rw [hl5] at hc hu
  have HCQ : Hid (∀ w', Below w.heap.size w w' → w'.cell? qa = some (.slice (some qb) 5 qc)) := fun w' hb => (hb.cell (World.block_lt_of_cell? w _ hc)).trans hc
  have HUQ : Hid (∀ w', Below w.heap.size w w' → IsTree w' (.slice (some qb) 5 qc) ts) := fun w' hb => hu.on hb
  obtain ⟨q', qr, hqq, hqr, hcc⟩ := hu.at (i := rn) (by omega)
  cases hqq
  rw [← hre] at hcc
  have HC5 : Hid (∀ w', Below w.heap.size w w' → Cells5 w' qr ⟨l1, p1, ra, rb, rc⟩) := fun w' hb => hcc.on hb
  have HR5 : Hid (rn < 5 ∧ qb.add (rn * 5) = qr) := ⟨hr, hqr⟩
  have HQC : Hid (5 ≤ qc) := by
    obtain ⟨a', cap', hv, hc', _⟩ := hu
    simp only [Value.slice.injEq] at hv
    show 5 ≤ qc
    omega
  have HLT : Hid (m < n ∧ n ≤ cap) := ⟨hm, hcap⟩
  have HPM : Hid (pn < n ∧ m < n) := ⟨hp, hm⟩
  have HN3 : Hid (n ≤ 3) := hn3
  have hn6 : n ≤ 1048576 := by omega
  have HX0 : Hid (∀ w', Below w.heap.size w w' → IsWood w' (.slice (some p0) n cap) tss) := fun w' hb => hx.on hb
  have HS00 : Hid (Mv w p0 n cap tss rn pn q h k t (w.alloc (boxT rn pn q h k t))) := mv_start _ _ _ _ _ _ hx
  have CM : Hid (∀ w', IsWood w' (.slice (some p0) n cap) tss → Calls Tryd.prog 19 #[.slice (some p0) n cap, .int .i64 (m : Int), tapV rn pn q h k t] w' fun e w'' => e = .returned (.bool true) ∧ Below w'.heap.size w' w'') := fun w' hb => by
    have hl := HNL.out
    rw [hl] at hb ⊢
    have e := implMay_any p0 cap tss m rn pn q h k t w' hb (by omega) (by omega) HTL.out
    rw [hmay] at e
    exact e
  clear hx hn hn3 hcap hm hp hr hall htap hlive hmay hts hre hN hA hB hC hns hpo ht1 hbo hbs e0 e1 e2 e3 hq hc hu hqr hcc hl5 hse
  go_enter Tryd.func6, Tryd.ntmps6
  go_wp2_with fail
  refine (CC.out _ HS00.out.wood).mono ?_
  rintro e w1 ⟨g0, c0, fs0, rest0, rfl, hfs, ho, hb⟩
  have HS : Hid (St w p0 n cap tss (rn : Int) (pn : Int) q h k t g0 c0 fs0 rest0 w1) := ⟨HS00.out.on hb, ho.wide (by simp) (Nat.le_refl _)⟩
  have HFS : Hid (leafTs fs0 = tss ∧ fs0.length = n) := ⟨hfs, by rw [← leafTs_length, hfs]; exact HNL.out.symm⟩
  clear HS00 hb ho hfs
  have t0 := (HS.out.mv.tap).c0
  have t1 := (HS.out.mv.tap).c1
  have t2 := (HS.out.mv.tap).c2
  have t3 := (HS.out.mv.tap).c3
  have t4 := (HS.out.mv.tap).c4
  have t5 := (HS.out.mv.tap).c5
  go_wp2_with fail
  refine (CM.out _ HS.out.mv.wood).mono ?_
  rintro e w2 ⟨rfl, hb⟩
  have HS2 := hid_of (HS.out.on hb)
  clear HS hb CM t0 t1 t2 t3 t4 t5
  have HS := HS2
  clear HS2
  go_wp2_with fail
  refine wp_region_whole (by kernel_rfl) (by kernel_rfl) (by kernel_rfl) (by kernel_rfl) (Flat (fun wz => St w p0 n cap tss (rn : Int) (pn : Int) q h k t g0 c0 fs0 rest0 wz) (gVals [tapV rn pn q h k t, .slice (some p0) n cap, .int .i64 (m : Int), .pointer (some qa), .pointer (some qa), .slice (some qb) 5 qc, .pointer (some ⟨w.heap.size, 0, none⟩), .int .i64 (rn : Int), .pointer (some qr), .pointer (some ⟨qr.block, qr.off + 2, none⟩), amt ra rb rc, .int .i64 N, .int .i64 N])) (flat_start (HS.out.on (below_draw _))) ?_ ?_
  · refine ⟨?_, ?_, ?_, ?_, ?_, ?_, ?_, ?_, ?_, ?_, ?_, ?_, ?_, trivial⟩
    · intro b0 us wz L hslot hoth hLi hR hcl hdo K hK
      have s5 : b0.tmps.getD 5 undef = .pointer (some ⟨w.heap.size, 0, none⟩) := hoth 5 (by rfl)
      have t0 := (hR.1.mv.tap).c0
      have t1 := (hR.1.mv.tap).c1
      have t2 := (hR.1.mv.tap).c2
      have t3 := (hR.1.mv.tap).c3
      have t4 := (hR.1.mv.tap).c4
      have t5 := (hR.1.mv.tap).c5
      clear hslot hoth hdo hcl hLi
      refine guard_none (by rfl) ?_
      go_simp
      exact hK _ _ (flat_mark (hR.1) (fun _ _ h => h) hR.2 rfl)
    · intro b0 us wz L hslot hoth hLi hR hcl hdo K hK
      have s0 : b0.tmps.getD 0 undef = .slice (some p0) n cap := hoth 0 (by rfl)
      clear hslot hoth hdo hcl hLi
      refine guard_none (by rfl) ?_
      go_simp
      exact hK _ _ (flat_mark (hR.1) (fun _ _ h => h) hR.2 rfl)
    · intro b0 us wz L hslot hoth hLi hR hcl hdo K hK
      have s1 : b0.tmps.getD 1 undef = .int .i64 (m : Int) := hoth 1 (by rfl)
      clear hslot hoth hdo hcl hLi
      refine guard_none (by rfl) ?_
      go_simp
      exact hK _ _ (flat_mark (hR.1) (fun _ _ h => h) hR.2 rfl)
    · intro b0 us wz L hslot hoth hLi hR hcl hdo K hK
      have s22 : b0.tmps.getD 22 undef = .slice (some p0) n cap := (hslot 1 22 (by rfl)).trans (hR.2 1 (done_at hdo 1 (by rfl)))
      have s23 : b0.tmps.getD 23 undef = .int .i64 (m : Int) := (hslot 2 23 (by rfl)).trans (hR.2 2 (done_at hdo 2 (by rfl)))
      have hmn : m < n := HLT.out.1
      have hcap0 : n ≤ cap := HLT.out.2
      have hq : p0.add m = qa := HQA.out
      clear hslot hoth hdo hcl hLi
      refine guard_none (by rfl) ?_
      go_simp
      exact hK _ _ (flat_mark (hR.1) (fun _ _ h => h) hR.2 rfl)
    · intro b0 us wz L hslot hoth hLi hR hcl hdo K hK
      have s24 : b0.tmps.getD 24 undef = .pointer (some qa) := (hslot 3 24 (by rfl)).trans (hR.2 3 (done_at hdo 3 (by rfl)))
      clear hslot hoth hdo hcl hLi
      refine guard_none (by rfl) ?_
      go_simp
      exact hK _ _ (flat_mark (hR.1) (fun _ _ h => h) hR.2 rfl)
    · intro b0 us wz L hslot hoth hLi hR hcl hdo K hK
      have s25 : b0.tmps.getD 25 undef = .pointer (some qa) := (hslot 4 25 (by rfl)).trans (hR.2 4 (done_at hdo 4 (by rfl)))
      have hc : wz.cell? qa = some (.slice (some qb) 5 qc) := HCQ.out _ hR.1.mv.below
      clear hslot hoth hdo hcl hLi
      refine guard_none (by rfl) ?_
      go_simp
      exact hK _ _ (flat_mark (hR.1) (fun _ _ h => h) hR.2 rfl)
    · intro b0 us wz L hslot hoth hLi hR hcl hdo K hK
      have s5 : b0.tmps.getD 5 undef = .pointer (some ⟨w.heap.size, 0, none⟩) := hoth 5 (by rfl)
      clear hslot hoth hdo hcl hLi
      refine guard_none (by rfl) ?_
      go_simp
      exact hK _ _ (flat_mark (hR.1) (fun _ _ h => h) hR.2 rfl)
    · intro b0 us wz L hslot hoth hLi hR hcl hdo K hK
      have s27 : b0.tmps.getD 27 undef = .pointer (some ⟨w.heap.size, 0, none⟩) := (hslot 6 27 (by rfl)).trans (hR.2 6 (done_at hdo 6 (by rfl)))
      have t0 := (hR.1.mv.tap).c0
      have t1 := (hR.1.mv.tap).c1
      have t2 := (hR.1.mv.tap).c2
      have t3 := (hR.1.mv.tap).c3
      have t4 := (hR.1.mv.tap).c4
      have t5 := (hR.1.mv.tap).c5
      clear hslot hoth hdo hcl hLi
      refine guard_none (by rfl) ?_
      go_simp
      exact hK _ _ (flat_mark (hR.1) (fun _ _ h => h) hR.2 rfl)
    · intro b0 us wz L hslot hoth hLi hR hcl hdo K hK
      have s26 : b0.tmps.getD 26 undef = .slice (some qb) 5 qc := (hslot 5 26 (by rfl)).trans (hR.2 5 (done_at hdo 5 (by rfl)))
      have s28 : b0.tmps.getD 28 undef = .int .i64 (rn : Int) := (hslot 7 28 (by rfl)).trans (hR.2 7 (done_at hdo 7 (by rfl)))
      have hr5 : rn < 5 := HR5.out.1
      have hri : (rn : Int) < 5 := by omega
      have hqr : qb.add (rn * 5) = qr := HR5.out.2
      have hqc : 5 ≤ qc := HQC.out
      clear hslot hoth hdo hcl hLi
      refine guard_none (by rfl) ?_
      go_simp
      exact hK _ _ (flat_mark (hR.1) (fun _ _ h => h) hR.2 rfl)
    · intro b0 us wz L hslot hoth hLi hR hcl hdo K hK
      have s29 : b0.tmps.getD 29 undef = .pointer (some qr) := (hslot 8 29 (by rfl)).trans (hR.2 8 (done_at hdo 8 (by rfl)))
      clear hslot hoth hdo hcl hLi
      refine guard_none (by rfl) ?_
      go_simp
      exact hK _ _ (flat_mark (hR.1) (fun _ _ h => h) hR.2 rfl)
    · intro b0 us wz L hslot hoth hLi hR hcl hdo K hK
      have s30 : b0.tmps.getD 30 undef = .pointer (some ⟨qr.block, qr.off + 2, none⟩) := (hslot 9 30 (by rfl)).trans (hR.2 9 (done_at hdo 9 (by rfl)))
      have cc := HC5.out _ hR.1.mv.below
      have k2 := cc.c2
      have k3 := cc.c3
      have k4 := cc.c4
      simp only at k2 k3 k4
      clear cc
      clear hslot hoth hdo hcl hLi
      refine guard_none (by rfl) ?_
      go_simp
      exact hK _ _ (flat_mark (hR.1) (fun _ _ h => h) hR.2 rfl)
    · intro b0 us wz L hslot hoth hLi hR hcl hdo K hK
      have s21 : b0.tmps.getD 21 undef = tapV rn pn q h k t := (hslot 0 21 (by rfl)).trans (hR.2 0 (done_at hdo 0 (by rfl)))
      have s31 : b0.tmps.getD 31 undef = amt ra rb rc := (hslot 10 31 (by rfl)).trans (hR.2 10 (done_at hdo 10 (by rfl)))
      clear hslot hoth hdo hcl hLi
      refine guard_none (by rfl) ?_
      go_simp
      refine (CF.out wz).mono ?_
      rintro e w' ⟨rfl, hb⟩
      exact hK _ _ (flat_mark (hR.1.on hb) (fun _ _ h => h) hR.2 rfl)
    · intro b0 us wz L hslot hoth hLi hR hcl hdo K hK
      have s32 : b0.tmps.getD 32 undef = .int .i64 N := (hslot 11 32 (by rfl)).trans (hR.2 11 (done_at hdo 11 (by rfl)))
      clear hslot hoth hdo hcl hLi
      refine guard_none (by rfl) ?_
      go_simp
      exact hK _ _ (flat_mark (hR.1) (fun _ _ h => h) hR.2 rfl)
  · intro us wn L hall hR a' ha'
    have g12 : us 12 = .int .i64 N := hR.2 12 (hall 12 (by decide))
    have HSN := hid_of hR.1
    clear hR hall
    simp only [putAll, g12] at ha'
    subst ha'
    go_frame
    have t3 := HSN.out.mv.tap.c3
    go_wp2_with fail
    refine (CO _).mono ?_
    rintro e w5 ⟨rfl, hb⟩
    have HS5 : Hid (St w p0 n cap tss (rn : Int) (pn : Int) q h k t g0 c0 fs0 rest0 (w5.alloc (boxA A B C))) := (HSN.out.on hb).on (below_alloc w5 (boxA A B C))
    have HA5 : Hid (Box3 (w5.alloc (boxA A B C)) w5.heap.size 37 A B C) := ⟨heap_alloc_new w5 _⟩
    clear CO hb HSN HS t3
    go_wp2_with fail
    obtain ⟨V5, hV⟩ : ∃ V, V = w5.alloc (boxA A B C) := ⟨_, rfl⟩
    obtain ⟨ga, hga⟩ : ∃ g, g = w5.heap.size := ⟨_, rfl⟩
    rw [← hV] at HS5 HA5 ⊢
    rw [← hga] at HA5 ⊢
    clear hV hga
    obtain ⟨lf0, hlf⟩ : ∃ x, x = leafAt fs0 m := ⟨_, rfl⟩
    have hlt : lf0.ts = ts := by rw [hlf, ← leafTs_at, HFS.out.1]; exact HTS.out.1
    have hlv : leafV lf0 = .slice (some ⟨lf0.g, 0, none⟩) 5 lf0.c := by unfold leafV; rw [hlt, HTS.out.2]
    have HLC0 : Hid (∀ w', St w p0 n cap tss (rn : Int) (pn : Int) q h k t g0 c0 fs0 rest0 w' → w'.cell? ⟨g0, m, none⟩ = some (.slice (some ⟨lf0.g, 0, none⟩) 5 lf0.c)) := fun w' hs => by
      have e := hs.out.cell (i := m) (by have e1 := HFS.out.2; have e2 := HPM.out.2; omega)
      rw [← hlf, hlv] at e
      exact e
    have HLF0 : Hid (∀ w', Below V5.heap.size V5 w' → IsTree w' (.slice (some ⟨lf0.g, 0, none⟩) 5 lf0.c) ts) := fun w' hb => by
      have e := (HS5.out.out.own m (by have e1 := HFS.out.2; have e2 := HPM.out.2; omega)).tree
      rw [← hlf, hlt, HTS.out.2] at e
      exact e.on hb
    clear hlf hlt hlv
    generalize lf0.g = gl0 at HLC0 HLF0
    generalize lf0.c = cl0 at HLC0 HLF0
    have HC00 : Hid (n ≤ c0) := by have e1 := HS5.out.out.cap; have e2 := HFS.out.2; show n ≤ c0; omega
    refine wp_region_whole (by kernel_rfl) (by kernel_rfl) (by kernel_rfl) (by kernel_rfl) (LastS 16 (CallQ V5 (fun wz => St w p0 n cap tss (rn : Int) (pn : Int) q h k t g0 c0 fs0 rest0 wz ∧ Box3 wz ga 37 A B C) ns (fun j => !([10, 11, 12, 13].contains j)) [.slice (some ⟨g0, 0, none⟩) n c0, .int .i64 (m : Int), .slice (some ⟨g0, 0, none⟩) n c0, .int .i64 (m : Int), .pointer (some ⟨g0, m, none⟩), .pointer (some ⟨g0, m, none⟩), .slice (some ⟨gl0, 0, none⟩) 5 cl0, .pointer (some ⟨w.heap.size, 0, none⟩), .int .i64 (rn : Int), amt A B C, undef, undef, undef, undef, .pointer (some ⟨g0, m, none⟩), .pointer (some ⟨g0, m, none⟩), undef] (fun s => [undef, undef, undef, undef, undef, undef, undef, undef, undef, undef, .tuple #[s, .bool po], .tuple #[s, .bool po], s, .bool po, undef, undef, undef])) (fun us wz => ∃ gs cs rs, St w p0 n cap tss (rn : Int) (pn : Int) q h k t g0 c0 (fs0.set m ⟨gs, cs, ns, rs⟩) rest0 wz ∧ Box3 wz ga 37 A B C ∧ us 11 = .tuple #[.slice (some ⟨gs, 0, none⟩) ns.length cs, .bool po])) (fun us => lastS_start (callQ_start ns _ _ _ us ⟨HS5.out.on (below_draw _), box_on HA5.out (below_draw _)⟩)) ?_ ?_
    · refine ⟨?_, ?_, ?_, ?_, ?_, ?_, ?_, ?_, ?_, ?_, ?_, ?_, ?_, ?_, ?_, ?_, ?_, trivial⟩
      · intro b0 us wz L hslot hoth hLi hRR hcl hdo K hK
        have hsf : L 16 = false := by
          cases h : L 16 with
          | false => rfl
          | true => rw [done_at (hcl 16 _ rfl h) 0 (by rfl)] at hLi; cases hLi
        have hR := lastS_open hRR hsf
        have s8 : b0.tmps.getD 8 undef = .slice (some ⟨g0, 0, none⟩) n c0 := hoth 8 (by rfl)
        clear hslot hoth hdo hcl hLi
        refine guard_none (by rfl) ?_
        go_simp
        exact hK _ _ (lastS_step (by decide) hsf (hR.mark (by decide) (Below.refl _ _) hR.base rfl))
      · intro b0 us wz L hslot hoth hLi hRR hcl hdo K hK
        have hsf : L 16 = false := by
          cases h : L 16 with
          | false => rfl
          | true => rw [done_at (hcl 16 _ rfl h) 1 (by rfl)] at hLi; cases hLi
        have hR := lastS_open hRR hsf
        have s1 : b0.tmps.getD 1 undef = .int .i64 (m : Int) := hoth 1 (by rfl)
        clear hslot hoth hdo hcl hLi
        refine guard_none (by rfl) ?_
        go_simp
        exact hK _ _ (lastS_step (by decide) hsf (hR.mark (by decide) (Below.refl _ _) hR.base rfl))
      · intro b0 us wz L hslot hoth hLi hRR hcl hdo K hK
        have hsf : L 16 = false := by
          cases h : L 16 with
          | false => rfl
          | true => rw [done_at (hcl 16 _ rfl h) 2 (by rfl)] at hLi; cases hLi
        have hR := lastS_open hRR hsf
        have s8 : b0.tmps.getD 8 undef = .slice (some ⟨g0, 0, none⟩) n c0 := hoth 8 (by rfl)
        clear hslot hoth hdo hcl hLi
        refine guard_none (by rfl) ?_
        go_simp
        exact hK _ _ (lastS_step (by decide) hsf (hR.mark (by decide) (Below.refl _ _) hR.base rfl))
      · intro b0 us wz L hslot hoth hLi hRR hcl hdo K hK
        have hsf : L 16 = false := by
          cases h : L 16 with
          | false => rfl
          | true => rw [done_at (hcl 16 _ rfl h) 3 (by rfl)] at hLi; cases hLi
        have hR := lastS_open hRR hsf
        have s1 : b0.tmps.getD 1 undef = .int .i64 (m : Int) := hoth 1 (by rfl)
        clear hslot hoth hdo hcl hLi
        refine guard_none (by rfl) ?_
        go_simp
        exact hK _ _ (lastS_step (by decide) hsf (hR.mark (by decide) (Below.refl _ _) hR.base rfl))
      · intro b0 us wz L hslot hoth hLi hRR hcl hdo K hK
        have hsf : L 16 = false := by
          cases h : L 16 with
          | false => rfl
          | true => rw [done_at (hcl 16 _ rfl h) 4 (by rfl)] at hLi; cases hLi
        have hR := lastS_open hRR hsf
        have s40 : b0.tmps.getD 40 undef = .slice (some ⟨g0, 0, none⟩) n c0 := (hslot 2 40 (by rfl)).trans (hR.vals 2 (by decide) (done_at hdo 2 (by rfl)))
        have s41 : b0.tmps.getD 41 undef = .int .i64 (m : Int) := (hslot 3 41 (by rfl)).trans (hR.vals 3 (by decide) (done_at hdo 3 (by rfl)))
        have hmn : m < n := HLT.out.1
        have hc0 : n ≤ c0 := HC00.out
        clear hslot hoth hdo hcl hLi
        refine guard_none (by rfl) ?_
        go_simp
        exact hK _ _ (lastS_step (by decide) hsf (hR.mark (by decide) (Below.refl _ _) hR.base rfl))
      · intro b0 us wz L hslot hoth hLi hRR hcl hdo K hK
        have hsf : L 16 = false := by
          cases h : L 16 with
          | false => rfl
          | true => rw [done_at (hcl 16 _ rfl h) 5 (by rfl)] at hLi; cases hLi
        have hR := lastS_open hRR hsf
        have s42 : b0.tmps.getD 42 undef = .pointer (some ⟨g0, m, none⟩) := (hslot 4 42 (by rfl)).trans (hR.vals 4 (by decide) (done_at hdo 4 (by rfl)))
        clear hslot hoth hdo hcl hLi
        refine guard_none (by rfl) ?_
        go_simp
        exact hK _ _ (lastS_step (by decide) hsf (hR.mark (by decide) (Below.refl _ _) hR.base rfl))
      · intro b0 us wz L hslot hoth hLi hRR hcl hdo K hK
        have hsf : L 16 = false := by
          cases h : L 16 with
          | false => rfl
          | true => rw [done_at (hcl 16 _ rfl h) 6 (by rfl)] at hLi; cases hLi
        have hR := lastS_open hRR hsf
        have s43 : b0.tmps.getD 43 undef = .pointer (some ⟨g0, m, none⟩) := (hslot 5 43 (by rfl)).trans (hR.vals 5 (by decide) (done_at hdo 5 (by rfl)))
        have hc : wz.cell? ⟨g0, m, none⟩ = some (.slice (some ⟨gl0, 0, none⟩) 5 cl0) := HLC0.out _ hR.base.1
        clear hslot hoth hdo hcl hLi
        refine guard_none (by rfl) ?_
        go_simp
        exact hK _ _ (lastS_step (by decide) hsf (hR.mark (by decide) (Below.refl _ _) hR.base rfl))
      · intro b0 us wz L hslot hoth hLi hRR hcl hdo K hK
        have hsf : L 16 = false := by
          cases h : L 16 with
          | false => rfl
          | true => rw [done_at (hcl 16 _ rfl h) 7 (by rfl)] at hLi; cases hLi
        have hR := lastS_open hRR hsf
        have s5 : b0.tmps.getD 5 undef = .pointer (some ⟨w.heap.size, 0, none⟩) := hoth 5 (by rfl)
        clear hslot hoth hdo hcl hLi
        refine guard_none (by rfl) ?_
        go_simp
        exact hK _ _ (lastS_step (by decide) hsf (hR.mark (by decide) (Below.refl _ _) hR.base rfl))
      · intro b0 us wz L hslot hoth hLi hRR hcl hdo K hK
        have hsf : L 16 = false := by
          cases h : L 16 with
          | false => rfl
          | true => rw [done_at (hcl 16 _ rfl h) 8 (by rfl)] at hLi; cases hLi
        have hR := lastS_open hRR hsf
        have s45 : b0.tmps.getD 45 undef = .pointer (some ⟨w.heap.size, 0, none⟩) := (hslot 7 45 (by rfl)).trans (hR.vals 7 (by decide) (done_at hdo 7 (by rfl)))
        have t0 := (hR.base.1.mv.tap).c0
        have t1 := (hR.base.1.mv.tap).c1
        have t2 := (hR.base.1.mv.tap).c2
        have t3 := (hR.base.1.mv.tap).c3
        have t4 := (hR.base.1.mv.tap).c4
        have t5 := (hR.base.1.mv.tap).c5
        clear hslot hoth hdo hcl hLi
        refine guard_none (by rfl) ?_
        go_simp
        exact hK _ _ (lastS_step (by decide) hsf (hR.mark (by decide) (Below.refl _ _) hR.base rfl))
      · intro b0 us wz L hslot hoth hLi hRR hcl hdo K hK
        have hsf : L 16 = false := by
          cases h : L 16 with
          | false => rfl
          | true => rw [done_at (hcl 16 _ rfl h) 9 (by rfl)] at hLi; cases hLi
        have hR := lastS_open hRR hsf
        have s10 : b0.tmps.getD 10 undef = .pointer (some ⟨ga, 0, none⟩) := hoth 10 (by rfl)
        have a0 := (hR.base.2).c0
        have a1 := (hR.base.2).c1
        have a2 := (hR.base.2).c2
        clear hslot hoth hdo hcl hLi
        refine guard_none (by rfl) ?_
        go_simp
        exact hK _ _ (lastS_step (by decide) hsf (hR.mark (by decide) (Below.refl _ _) hR.base rfl))
      · intro b0 us wz L hslot hoth hLi hRR hcl hdo K hK
        have hsf : L 16 = false := by
          cases h : L 16 with
          | false => rfl
          | true => rw [done_at (hcl 16 _ rfl h) 10 (by rfl)] at hLi; cases hLi
        have hR := lastS_open hRR hsf
        have s44 : b0.tmps.getD 44 undef = .slice (some ⟨gl0, 0, none⟩) 5 cl0 := (hslot 6 44 (by rfl)).trans (hR.vals 6 (by decide) (done_at hdo 6 (by rfl)))
        have s46 : b0.tmps.getD 46 undef = .int .i64 (rn : Int) := (hslot 8 46 (by rfl)).trans (hR.vals 8 (by decide) (done_at hdo 8 (by rfl)))
        have s47 : b0.tmps.getD 47 undef = amt A B C := (hslot 9 47 (by rfl)).trans (hR.vals 9 (by decide) (done_at hdo 9 (by rfl)))
        have n11 : L 11 = false := by
          cases h : L 11 with
          | false => rfl
          | true => rw [done_at (hcl 11 _ rfl h) 10 (by rfl)] at hLi; cases hLi
        have n12 : L 12 = false := by
          cases h : L 12 with
          | false => rfl
          | true => rw [done_at (hcl 12 _ rfl h) 11 (by rfl)] at n11; cases n11
        have n13 : L 13 = false := by
          cases h : L 13 with
          | false => rfl
          | true => rw [done_at (hcl 13 _ rfl h) 11 (by rfl)] at n11; cases n11
        have hL0 : ∀ j, (fun j => !([10, 11, 12, 13].contains j)) j = false → j ≠ 10 → L j = false := fun j hj hne => by
          have hc : j = 10 ∨ j = 11 ∨ j = 12 ∨ j = 13 := by simp at hj; omega
          rcases hc with rfl | rfl | rfl | rfl
          · exact absurd rfl hne
          · exact n11
          · exact n12
          · exact n13
        clear hslot hoth hdo hcl hLi
        refine guard_none (by rfl) ?_
        go_simp
        refine (CP.out _ _ _ (HLF0.out _ hR.below) (HSE.out.on hR.base.1.mv.below)).mono ?_
        rintro e w' ⟨gq, cq, rq, rfl, hoq, hb⟩
        exact hK _ _ (lastS_step (by decide) hsf (hR.call (by decide) hL0 hb (⟨hR.base.1.on hb, box_on hR.base.2 hb⟩) hoq rfl))
      · intro b0 us wz L hslot hoth hLi hRR hcl hdo K hK
        have hsf : L 16 = false := by
          cases h : L 16 with
          | false => rfl
          | true => rw [done_at (hcl 16 _ rfl h) 11 (by rfl)] at hLi; cases hLi
        have hR := lastS_open hRR hsf
        obtain ⟨gq, cq, rq, hoq, huq⟩ := hR.ans 10 (by decide) (done_at hdo 10 (by rfl))
        have s48 : b0.tmps.getD 48 undef = .tuple #[(.slice (some ⟨gq, 0, none⟩) ns.length cq), .bool po] := (hslot 10 48 (by rfl)).trans (huq 10 (by decide) (done_at hdo 10 (by rfl)))
        clear hslot hoth hdo hcl hLi
        refine guard_none (by rfl) ?_
        go_simp
        exact hK _ _ (lastS_step (by decide) hsf (hR.after (by decide) hoq huq rfl))
      · intro b0 us wz L hslot hoth hLi hRR hcl hdo K hK
        have hsf : L 16 = false := by
          cases h : L 16 with
          | false => rfl
          | true => rw [done_at (hcl 16 _ rfl h) 12 (by rfl)] at hLi; cases hLi
        have hR := lastS_open hRR hsf
        obtain ⟨gq, cq, rq, hoq, huq⟩ := hR.ans 11 (by decide) (done_at hdo 11 (by rfl))
        have s37 : b0.tmps.getD 37 undef = .tuple #[(.slice (some ⟨gq, 0, none⟩) ns.length cq), .bool po] := (hslot 11 37 (by rfl)).trans (huq 11 (by decide) (done_at hdo 11 (by rfl)))
        clear hslot hoth hdo hcl hLi
        refine guard_none (by rfl) ?_
        go_simp
        exact hK _ _ (lastS_step (by decide) hsf (hR.after (by decide) hoq huq rfl))
      · intro b0 us wz L hslot hoth hLi hRR hcl hdo K hK
        cases hsf : L 16 with
        | false =>
          have hR := lastS_open hRR hsf
          obtain ⟨gq, cq, rq, hoq, huq⟩ := hR.ans 11 (by decide) (done_at hdo 11 (by rfl))
          have s37 : b0.tmps.getD 37 undef = .tuple #[(.slice (some ⟨gq, 0, none⟩) ns.length cq), .bool po] := (hslot 11 37 (by rfl)).trans (huq 11 (by decide) (done_at hdo 11 (by rfl)))
          clear hslot hoth hdo hcl hLi
          refine guard_none (by rfl) ?_
          go_simp
          exact hK _ _ (lastS_step (by decide) hsf (hR.after (by decide) hoq huq rfl))
        | true =>
          obtain ⟨gs, cs, rs, h1, h2, h3⟩ := lastS_end hRR hsf
          have s37 : b0.tmps.getD 37 undef = .tuple #[(.slice (some ⟨gs, 0, none⟩) ns.length cs), .bool po] := (hslot 11 37 (by rfl)).trans h3
          clear hslot hoth hdo hcl hLi
          refine guard_none (by rfl) ?_
          go_simp
          exact hK _ _ (lastS_late (by decide) hsf ⟨gs, cs, rs, h1, h2, by rw [use_other us _ (by decide)]; exact h3⟩)
      · intro b0 us wz L hslot hoth hLi hRR hcl hdo K hK
        have hsf : L 16 = false := by
          cases h : L 16 with
          | false => rfl
          | true => rw [done_at (hcl 15 _ rfl (done_at (hcl 16 _ rfl h) 15 (by rfl))) 14 (by rfl)] at hLi; cases hLi
        have hR := lastS_open hRR hsf
        have s38 : b0.tmps.getD 38 undef = .slice (some ⟨g0, 0, none⟩) n c0 := (hslot 0 38 (by rfl)).trans (hR.vals 0 (by decide) (done_at hdo 0 (by rfl)))
        have s39 : b0.tmps.getD 39 undef = .int .i64 (m : Int) := (hslot 1 39 (by rfl)).trans (hR.vals 1 (by decide) (done_at hdo 1 (by rfl)))
        have hmn : m < n := HLT.out.1
        have hc0 : n ≤ c0 := HC00.out
        clear hslot hoth hdo hcl hLi
        refine guard_none (by rfl) ?_
        go_simp
        exact hK _ _ (lastS_step (by decide) hsf (hR.mark (by decide) (Below.refl _ _) hR.base rfl))
      · intro b0 us wz L hslot hoth hLi hRR hcl hdo K hK
        have hsf : L 16 = false := by
          cases h : L 16 with
          | false => rfl
          | true => rw [done_at (hcl 16 _ rfl h) 15 (by rfl)] at hLi; cases hLi
        have hR := lastS_open hRR hsf
        have s51 : b0.tmps.getD 51 undef = .pointer (some ⟨g0, m, none⟩) := (hslot 14 51 (by rfl)).trans (hR.vals 14 (by decide) (done_at hdo 14 (by rfl)))
        clear hslot hoth hdo hcl hLi
        refine guard_none (by rfl) ?_
        go_simp
        exact hK _ _ (lastS_step (by decide) hsf (hR.mark (by decide) (Below.refl _ _) hR.base rfl))
      · intro b0 us wz L hslot hoth hLi hRR hcl hdo K hK
        have hR := lastS_open hRR hLi
        have s52 : b0.tmps.getD 52 undef = .pointer (some ⟨g0, m, none⟩) := (hslot 15 52 (by rfl)).trans (hR.vals 15 (by decide) (done_at hdo 15 (by rfl)))
        obtain ⟨gq, cq, rq, hoq, huq⟩ := hR.ans 12 (by decide) (done_at hdo 12 (by rfl))
        have s49 : b0.tmps.getD 49 undef = (.slice (some ⟨gq, 0, none⟩) ns.length cq) := (hslot 12 49 (by rfl)).trans (huq 12 (by decide) (done_at hdo 12 (by rfl)))
        have h11 : us 11 = .tuple #[(.slice (some ⟨gq, 0, none⟩) ns.length cq), .bool po] := huq 11 (by decide) (done_at hdo 11 (by rfl))
        have hc : wz.cell? ⟨g0, m, none⟩ = some (.slice (some ⟨gl0, 0, none⟩) 5 cl0) := HLC0.out _ hR.base.1
        have f0 := hR.base.1.out.free m
        clear hslot hoth hdo hcl hLi
        refine guard_none (by rfl) ?_
        go_simp
        have hput := (HS5.out.out.on hR.below).put (f := ⟨gq, cq, ns, rq⟩) hoq (k := m) (by have e1 := HFS.out.2; have e2 := HPM.out.2; omega)
        exact hK undef _ (lastS_last ⟨gq, cq, rq, ⟨⟨hR.base.1.mv.below.setCell (p := ⟨g0, m, none⟩) hR.base.1.out.lo _, ⟨setCell_keep hR.base.1.mv.tap.at' (tap_apart hR.base.1)⟩, HX0.out _ (hR.base.1.mv.below.setCell (p := ⟨g0, m, none⟩) hR.base.1.out.lo _)⟩, hput.more⟩, ⟨setCell_keep hR.base.2.at' (box_apart hR.base.2 hR.base.1.out)⟩, by rw [use_other us _ (by decide)]; exact h11⟩)
    · intro us V7 L hall hRR a' ha'
      have hFI := hid_of (lastS_end hRR (hall 16 (by decide)))
      clear hRR hall
      simp only [putAll] at ha'
      subst ha'
      go_frame
      obtain ⟨gs, cs, rs, hS7, hA7, -⟩ := hFI.out
      have HS7 := hid_of hS7
      have HA7 := hid_of hA7
      clear hFI hS7 hA7 HS5 HA5 HLC0 HLF0 HC00
      go_wp2_with fail
      have HFL : Hid ((fs0.set m ⟨gs, cs, ns, rs⟩).length = n ∧ leafTs (fs0.set m ⟨gs, cs, ns, rs⟩) = tss.set m ns) := ⟨by rw [List.length_set]; exact HFS.out.2, by rw [leafTs_set, HFS.out.1]⟩
      obtain ⟨lf, hlf⟩ : ∃ x, x = leafAt (fs0.set m ⟨gs, cs, ns, rs⟩) pn := ⟨_, rfl⟩
      have hlt : lf.ts = t1 := by rw [hlf, ← leafTs_at, HFL.out.2]; exact HT1.out.1
      have hlv : leafV lf = .slice (some ⟨lf.g, 0, none⟩) 5 lf.c := by unfold leafV; rw [hlt, HT1.out.2]
      have HLC : Hid (∀ w', St w p0 n cap tss (rn : Int) (pn : Int) q h k t g0 c0 (fs0.set m ⟨gs, cs, ns, rs⟩) rest0 w' → w'.cell? ⟨g0, pn, none⟩ = some (.slice (some ⟨lf.g, 0, none⟩) 5 lf.c)) := fun w' hs => by
        have e := hs.out.cell (i := pn) (by have e1 := HFL.out.1; have e2 := HPM.out.1; omega)
        rw [← hlf, hlv] at e
        exact e
      have HLF : Hid (∀ w', Below V7.heap.size V7 w' → IsTree w' (.slice (some ⟨lf.g, 0, none⟩) 5 lf.c) t1) := fun w' hb => by
        have e := (HS7.out.out.own pn (by have e1 := HFL.out.1; have e2 := HPM.out.1; omega)).tree
        rw [← hlf, hlt, HT1.out.2] at e
        exact e.on hb
      clear hlf hlt hlv
      generalize lf.g = gl at HLC HLF
      generalize lf.c = cl at HLC HLF
      have HC0 : Hid (n ≤ c0) := by have e1 := HS7.out.out.cap; have e2 := HFL.out.1; show n ≤ c0; omega
      refine wp_region_whole (by kernel_rfl) (by kernel_rfl) (by kernel_rfl) (by kernel_rfl) (CallQ V7 (fun wz => St w p0 n cap tss (rn : Int) (pn : Int) q h k t g0 c0 (fs0.set m ⟨gs, cs, ns, rs⟩) rest0 wz ∧ Box3 wz ga 37 A B C) bs (fun j => !([9, 10, 11, 12, 13, 14].contains j)) [.slice (some ⟨g0, 0, none⟩) n c0, .pointer (some ⟨w.heap.size, 1, none⟩), .int .i64 (pn : Int), .pointer (some ⟨g0, pn, none⟩), .pointer (some ⟨g0, pn, none⟩), .slice (some ⟨gl, 0, none⟩) 5 cl, .pointer (some ⟨w.heap.size, 2, none⟩), .int .i64 q, amt A B C, undef, undef, undef, undef, undef, undef] (fun s => [undef, undef, undef, undef, undef, undef, undef, undef, undef, .tuple #[s, .bool bo], .tuple #[s, .bool bo], s, .bool bo, s, .bool bo])) (fun us => callQ_start bs _ _ _ us ⟨HS7.out.on (below_draw _), box_on HA7.out (below_draw _)⟩) ?_ ?_
      · refine ⟨?_, ?_, ?_, ?_, ?_, ?_, ?_, ?_, ?_, ?_, ?_, ?_, ?_, ?_, ?_, trivial⟩
        · intro b0 us wz L hslot hoth hLi hR hcl hdo K hK
          have s8 : b0.tmps.getD 8 undef = .slice (some ⟨g0, 0, none⟩) n c0 := hoth 8 (by rfl)
          clear hslot hoth hdo hcl hLi
          refine guard_none (by rfl) ?_
          go_simp
          exact hK _ _ (hR.mark (by decide) (Below.refl _ _) hR.base rfl)
        · intro b0 us wz L hslot hoth hLi hR hcl hdo K hK
          have s5 : b0.tmps.getD 5 undef = .pointer (some ⟨w.heap.size, 0, none⟩) := hoth 5 (by rfl)
          clear hslot hoth hdo hcl hLi
          refine guard_none (by rfl) ?_
          go_simp
          exact hK _ _ (hR.mark (by decide) (Below.refl _ _) hR.base rfl)
        · intro b0 us wz L hslot hoth hLi hR hcl hdo K hK
          have s55 : b0.tmps.getD 55 undef = .pointer (some ⟨w.heap.size, 1, none⟩) := (hslot 1 55 (by rfl)).trans (hR.vals 1 (by decide) (done_at hdo 1 (by rfl)))
          have t0 := (hR.base.1.mv.tap).c0
          have t1 := (hR.base.1.mv.tap).c1
          have t2 := (hR.base.1.mv.tap).c2
          have t3 := (hR.base.1.mv.tap).c3
          have t4 := (hR.base.1.mv.tap).c4
          have t5 := (hR.base.1.mv.tap).c5
          clear hslot hoth hdo hcl hLi
          refine guard_none (by rfl) ?_
          go_simp
          exact hK _ _ (hR.mark (by decide) (Below.refl _ _) hR.base rfl)
        · intro b0 us wz L hslot hoth hLi hR hcl hdo K hK
          have s54 : b0.tmps.getD 54 undef = .slice (some ⟨g0, 0, none⟩) n c0 := (hslot 0 54 (by rfl)).trans (hR.vals 0 (by decide) (done_at hdo 0 (by rfl)))
          have s56 : b0.tmps.getD 56 undef = .int .i64 (pn : Int) := (hslot 2 56 (by rfl)).trans (hR.vals 2 (by decide) (done_at hdo 2 (by rfl)))
          have hpn : pn < n := HPM.out.1
          have hc0 : n ≤ c0 := HC0.out
          clear hslot hoth hdo hcl hLi
          refine guard_none (by rfl) ?_
          go_simp
          exact hK _ _ (hR.mark (by decide) (Below.refl _ _) hR.base rfl)
        · intro b0 us wz L hslot hoth hLi hR hcl hdo K hK
          have s57 : b0.tmps.getD 57 undef = .pointer (some ⟨g0, pn, none⟩) := (hslot 3 57 (by rfl)).trans (hR.vals 3 (by decide) (done_at hdo 3 (by rfl)))
          clear hslot hoth hdo hcl hLi
          refine guard_none (by rfl) ?_
          go_simp
          exact hK _ _ (hR.mark (by decide) (Below.refl _ _) hR.base rfl)
        · intro b0 us wz L hslot hoth hLi hR hcl hdo K hK
          have s58 : b0.tmps.getD 58 undef = .pointer (some ⟨g0, pn, none⟩) := (hslot 4 58 (by rfl)).trans (hR.vals 4 (by decide) (done_at hdo 4 (by rfl)))
          have hc : wz.cell? ⟨g0, pn, none⟩ = some (.slice (some ⟨gl, 0, none⟩) 5 cl) := HLC.out _ hR.base.1
          clear hslot hoth hdo hcl hLi
          refine guard_none (by rfl) ?_
          go_simp
          exact hK _ _ (hR.mark (by decide) (Below.refl _ _) hR.base rfl)
        · intro b0 us wz L hslot hoth hLi hR hcl hdo K hK
          have s5 : b0.tmps.getD 5 undef = .pointer (some ⟨w.heap.size, 0, none⟩) := hoth 5 (by rfl)
          clear hslot hoth hdo hcl hLi
          refine guard_none (by rfl) ?_
          go_simp
          exact hK _ _ (hR.mark (by decide) (Below.refl _ _) hR.base rfl)
        · intro b0 us wz L hslot hoth hLi hR hcl hdo K hK
          have s60 : b0.tmps.getD 60 undef = .pointer (some ⟨w.heap.size, 2, none⟩) := (hslot 6 60 (by rfl)).trans (hR.vals 6 (by decide) (done_at hdo 6 (by rfl)))
          have t0 := (hR.base.1.mv.tap).c0
          have t1 := (hR.base.1.mv.tap).c1
          have t2 := (hR.base.1.mv.tap).c2
          have t3 := (hR.base.1.mv.tap).c3
          have t4 := (hR.base.1.mv.tap).c4
          have t5 := (hR.base.1.mv.tap).c5
          clear hslot hoth hdo hcl hLi
          refine guard_none (by rfl) ?_
          go_simp
          exact hK _ _ (hR.mark (by decide) (Below.refl _ _) hR.base rfl)
        · intro b0 us wz L hslot hoth hLi hR hcl hdo K hK
          have s10 : b0.tmps.getD 10 undef = .pointer (some ⟨ga, 0, none⟩) := hoth 10 (by rfl)
          have a0 := (hR.base.2).c0
          have a1 := (hR.base.2).c1
          have a2 := (hR.base.2).c2
          clear hslot hoth hdo hcl hLi
          refine guard_none (by rfl) ?_
          go_simp
          exact hK _ _ (hR.mark (by decide) (Below.refl _ _) hR.base rfl)
        · intro b0 us wz L hslot hoth hLi hR hcl hdo K hK
          have s59 : b0.tmps.getD 59 undef = .slice (some ⟨gl, 0, none⟩) 5 cl := (hslot 5 59 (by rfl)).trans (hR.vals 5 (by decide) (done_at hdo 5 (by rfl)))
          have s61 : b0.tmps.getD 61 undef = .int .i64 q := (hslot 7 61 (by rfl)).trans (hR.vals 7 (by decide) (done_at hdo 7 (by rfl)))
          have s62 : b0.tmps.getD 62 undef = amt A B C := (hslot 8 62 (by rfl)).trans (hR.vals 8 (by decide) (done_at hdo 8 (by rfl)))
          have n10 : L 10 = false := by
            cases h : L 10 with
            | false => rfl
            | true => rw [done_at (hcl 10 _ rfl h) 9 (by rfl)] at hLi; cases hLi
          have n11 : L 11 = false := by
            cases h : L 11 with
            | false => rfl
            | true => rw [done_at (hcl 11 _ rfl h) 10 (by rfl)] at n10; cases n10
          have n12 : L 12 = false := by
            cases h : L 12 with
            | false => rfl
            | true => rw [done_at (hcl 12 _ rfl h) 10 (by rfl)] at n10; cases n10
          have n13 : L 13 = false := by
            cases h : L 13 with
            | false => rfl
            | true => rw [done_at (hcl 13 _ rfl h) 11 (by rfl)] at n11; cases n11
          have n14 : L 14 = false := by
            cases h : L 14 with
            | false => rfl
            | true => rw [done_at (hcl 14 _ rfl h) 12 (by rfl)] at n12; cases n12
          have hL0 : ∀ j, (fun j => !([9, 10, 11, 12, 13, 14].contains j)) j = false → j ≠ 9 → L j = false := fun j hj hne => by
            have hc : j = 9 ∨ j = 10 ∨ j = 11 ∨ j = 12 ∨ j = 13 ∨ j = 14 := by simp at hj; omega
            rcases hc with rfl | rfl | rfl | rfl | rfl | rfl
            · exact absurd rfl hne
            · exact n10
            · exact n11
            · exact n12
            · exact n13
            · exact n14
          clear hslot hoth hdo hcl hLi
          refine guard_none (by rfl) ?_
          go_simp
          refine (CB.out _ _ _ (HLF.out _ hR.below)).mono ?_
          rintro e w' ⟨gq, cq, rq, rfl, hoq, hb⟩
          exact hK _ _ (hR.call (by decide) hL0 hb (⟨hR.base.1.on hb, box_on hR.base.2 hb⟩) hoq rfl)
        · intro b0 us wz L hslot hoth hLi hR hcl hdo K hK
          obtain ⟨gq, cq, rq, hoq, huq⟩ := hR.ans 9 (by decide) (done_at hdo 9 (by rfl))
          have s63 : b0.tmps.getD 63 undef = .tuple #[(.slice (some ⟨gq, 0, none⟩) bs.length cq), .bool bo] := (hslot 9 63 (by rfl)).trans (huq 9 (by decide) (done_at hdo 9 (by rfl)))
          clear hslot hoth hdo hcl hLi
          refine guard_none (by rfl) ?_
          go_simp
          exact hK _ _ (hR.after (by decide) hoq huq rfl)
        · intro b0 us wz L hslot hoth hLi hR hcl hdo K hK
          obtain ⟨gq, cq, rq, hoq, huq⟩ := hR.ans 10 (by decide) (done_at hdo 10 (by rfl))
          have s53 : b0.tmps.getD 53 undef = .tuple #[(.slice (some ⟨gq, 0, none⟩) bs.length cq), .bool bo] := (hslot 10 53 (by rfl)).trans (huq 10 (by decide) (done_at hdo 10 (by rfl)))
          clear hslot hoth hdo hcl hLi
          refine guard_none (by rfl) ?_
          go_simp
          exact hK _ _ (hR.after (by decide) hoq huq rfl)
        · intro b0 us wz L hslot hoth hLi hR hcl hdo K hK
          obtain ⟨gq, cq, rq, hoq, huq⟩ := hR.ans 10 (by decide) (done_at hdo 10 (by rfl))
          have s53 : b0.tmps.getD 53 undef = .tuple #[(.slice (some ⟨gq, 0, none⟩) bs.length cq), .bool bo] := (hslot 10 53 (by rfl)).trans (huq 10 (by decide) (done_at hdo 10 (by rfl)))
          clear hslot hoth hdo hcl hLi
          refine guard_none (by rfl) ?_
          go_simp
          exact hK _ _ (hR.after (by decide) hoq huq rfl)
        · intro b0 us wz L hslot hoth hLi hR hcl hdo K hK
          obtain ⟨gq, cq, rq, hoq, huq⟩ := hR.ans 11 (by decide) (done_at hdo 11 (by rfl))
          have s64 : b0.tmps.getD 64 undef = (.slice (some ⟨gq, 0, none⟩) bs.length cq) := (hslot 11 64 (by rfl)).trans (huq 11 (by decide) (done_at hdo 11 (by rfl)))
          clear hslot hoth hdo hcl hLi
          refine guard_none (by rfl) ?_
          go_simp
          exact hK _ _ (hR.after (by decide) hoq huq rfl)
        · intro b0 us wz L hslot hoth hLi hR hcl hdo K hK
          obtain ⟨gq, cq, rq, hoq, huq⟩ := hR.ans 12 (by decide) (done_at hdo 12 (by rfl))
          have s65 : b0.tmps.getD 65 undef = .bool bo := (hslot 12 65 (by rfl)).trans (huq 12 (by decide) (done_at hdo 12 (by rfl)))
          clear hslot hoth hdo hcl hLi
          refine guard_none (by rfl) ?_
          go_simp
          exact hK _ _ (hR.after (by decide) hoq huq rfl)
      · intro us wm L hall hR a' ha'
        obtain ⟨gu, cu, ru, hoq, huq⟩ := hR.ans 9 (by decide) (hall 9 (by decide))
        have g13 : us 13 = (.slice (some ⟨gu, 0, none⟩) bs.length cu) := huq 13 (by decide) (hall 13 (by decide))
        have g14 : us 14 = .bool bo := huq 14 (by decide) (hall 14 (by decide))
        have hbW := hR.below
        have hBA := hid_of hR.base
        have HOQ := hid_of hoq
        clear hR hall huq hoq
        simp only [putAll, g13, g14] at ha'
        subst ha'
        go_frame
        have HSM := hid_of hBA.out.1
        have HPW : Hid (OwnW g0 c0 (fs0.set m ⟨gs, cs, ns, rs⟩) rest0 w.heap.size V7.heap.size wm) := HS7.out.out.on hbW
        clear HA7 hBA hbW HLC HLF HS7
        cases bo with
        | false =>
          have HRS := hid_of (HF2.out rfl)
          clear HOQ HPW
          go_wp2_with fail
          refine (CC.out _ HSM.out.mv.wood).mono ?_
          rintro e w9 ⟨g9, c9, fs9, rest9, rfl, hfs, ho, hb⟩
          have HS9 := hid_of (HSM.out.on hb)
          have HO9 : Hid (leafTs fs9 = tss ∧ OwnW g9 c9 fs9 rest9 w.heap.size w9.heap.size w9) := ⟨hfs, ho.wide HSM.out.mv.below.size (Nat.le_refl _)⟩
          clear hfs ho hb HSM
          go_wp2
          go_returns
          rw [HRS.out.1, HRS.out.2]
          exact ⟨g9, c9, fs9, rest9, by rw [← HNL.out]; rfl, HO9.out.1, HO9.out.2, HS9.out.mv.below⟩
        | true =>
          have HRS := hid_of (HF1.out rfl)
          have c0' := HSM.out.out.cell (i := pn) (by have e1 := HFL.out.1; have e2 := HPM.out.1; omega)
          have f0' := HSM.out.out.free pn
          have t1' := HSM.out.mv.tap.c1
          have hpn : pn < n := HPM.out.1
          have hc0 : n ≤ c0 := HC0.out
          unfold leafV at c0'
          have hput := HPW.out.put (f := ⟨gu, cu, bs, ru⟩) HOQ.out (k := pn) (by have e1 := HFL.out.1; have e2 := HPM.out.1; omega)
          have HPUT : Hid (OwnW g0 c0 ((fs0.set m ⟨gs, cs, ns, rs⟩).set pn ⟨gu, cu, bs, ru⟩) rest0 w.heap.size wm.heap.size (wm.setCell ⟨g0, pn, none⟩ (.slice (some ⟨gu, 0, none⟩) bs.length cu))) := hput
          have HBL : Hid (Below w.heap.size w (wm.setCell ⟨g0, pn, none⟩ (.slice (some ⟨gu, 0, none⟩) bs.length cu))) := HSM.out.mv.below.setCell (p := ⟨g0, pn, none⟩) HSM.out.out.lo _
          clear HSM HOQ HPW hput
          go_wp2
          go_returns
          rw [HRS.out.1, HRS.out.2]
          refine ⟨g0, c0, _, rest0, by rw [List.length_set, List.length_set, ← HNL.out]; rfl, ?_, HPUT.out.more, HBL.out⟩
          rw [leafTs_set, HFL.out.2]
set_option maxRecDepth 100000 in
set_option maxHeartbeats 16000000 in
theorem implMove_no (p0 : Addr) (n cap : Nat) (tss : List (List Re)) (P r p q h k t : Int) (w : World) (hx : IsWood w (.slice (some p0) n cap) tss) (hn : n = tss.length) (hcap : n ≤ cap) (hn6 : n ≤ 1048576) (hTL : ∀ i, (treeAt tss i).length ≤ 1048576) (hmay : mayB tss P r p q h k t = false) :
    Calls Tryd.prog 6 #[.slice (some p0) n cap, .int .i64 P, tapV r p q h k t] w fun e w' => MoveAns (moveOf tss P r p q h k t) (moveM tss P r p q h k t) w e w' := by
  rw [moveOf_no (moveB_no hmay), moveM_no (moveB_no hmay)]
  have HTL : Hid (∀ i, (treeAt tss i).length ≤ 1048576) := hTL
  have HNL : Hid (n = tss.length) := hn
  have CC : Hid (∀ w', IsWood w' (.slice (some p0) n cap) tss → Calls Tryd.prog 18 #[.slice (some p0) n cap] w' fun e w'' => ∃ g c fs rest, e = .returned (.slice (some ⟨g, 0, none⟩) n c) ∧ leafTs fs = tss ∧ OwnW g c fs rest w'.heap.size w''.heap.size w'' ∧ Below w'.heap.size w' w'') := fun w' hb => by
    rw [HNL.out] at hb ⊢
    exact implCopies_any p0 cap tss w' hb (by have := HNL.out; omega) HTL.out
  have HS00 : Hid (Mv w p0 n cap tss r p q h k t (w.alloc (boxT r p q h k t))) := mv_start _ _ _ _ _ _ hx
  have HX0 : Hid (∀ w', Below w.heap.size w w' → IsWood w' (.slice (some p0) n cap) tss) := fun w' hb => hx.on hb
  have CM : Hid (∀ w', IsWood w' (.slice (some p0) n cap) tss → Calls Tryd.prog 19 #[.slice (some p0) n cap, .int .i64 P, tapV r p q h k t] w' fun e w'' => e = .returned (.bool false) ∧ Below w'.heap.size w' w'') := fun w' hb => by
    have hl := HNL.out
    rw [hl] at hb ⊢
    have e := implMay_any p0 cap tss P r p q h k t w' hb (by omega) (by omega) HTL.out
    rw [hmay] at e
    exact e
  clear hx hn hcap hTL hmay
  go_enter Tryd.func6, Tryd.ntmps6
  go_wp2_with fail
  refine (CC.out _ HS00.out.wood).mono ?_
  rintro e w1 ⟨g0, c0, fs0, rest0, rfl, hfs, ho, hb⟩
  have HS : Hid (St w p0 n cap tss r p q h k t g0 c0 fs0 rest0 w1) := ⟨HS00.out.on hb, ho.wide (by simp) (Nat.le_refl _)⟩
  have HFS : Hid (leafTs fs0 = tss ∧ fs0.length = n) := ⟨hfs, by rw [← leafTs_length, hfs]; exact HNL.out.symm⟩
  clear HS00 hb ho hfs
  have t0 := HS.out.mv.tap.c0
  have t1 := HS.out.mv.tap.c1
  have t2 := HS.out.mv.tap.c2
  have t3 := HS.out.mv.tap.c3
  have t4 := HS.out.mv.tap.c4
  have t5 := HS.out.mv.tap.c5
  go_wp2_with fail
  refine (CM.out _ HS.out.mv.wood).mono ?_
  rintro e w2 ⟨rfl, hb⟩
  have HSE := hid_of (HS.out.on hb)
  clear HS hb CM t0 t1 t2 t3 t4 t5
  go_wp2
  go_returns
  exact ⟨g0, c0, fs0, rest0, by rw [← HNL.out]; rfl, HFS.out.1, HSE.out.out, HSE.out.mv.below⟩
end Go.Proofs.YtfcenombphodbaaDoor
