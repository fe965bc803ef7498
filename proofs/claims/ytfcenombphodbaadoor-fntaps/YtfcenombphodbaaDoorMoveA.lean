/-
  TapMove: what the model answers. TapMove: what the model answers where nothing may flow.
-/
import Derived.Test.YtfcenombphodbaaDoorWood7
namespace Go.Proofs.YtfcenombphodbaaDoor
open Go.RowKit
set_option linter.unusedVariables false
set_option maxRecDepth 100000

/-- What stands while something is moved: the tap, what came in, what is the call's own. -/
structure St (w : World) (p0 : Addr) (n cap : Nat) (tss : List (List Re)) (r p q h k t : Int) (g0 c0 : Nat) (fs : List Leaf) (rest : List Value) (wr : World) : Prop where
  mv : Mv w p0 n cap tss r p q h k t wr
  out : OwnW g0 c0 fs rest w.heap.size wr.heap.size wr
theorem St.on {w : World} {p0 : Addr} {n cap : Nat} {tss : List (List Re)} {r p q h k t : Int} {g0 c0 : Nat} {fs : List Leaf} {rest : List Value} {wr w' : World} (x : St w p0 n cap tss r p q h k t g0 c0 fs rest wr) (hb : Below wr.heap.size wr w') : St w p0 n cap tss r p q h k t g0 c0 fs rest w' := ⟨x.mv.on hb, (x.out.on hb).more⟩
/-- One operation ends a region: nothing is done behind it. -/
def LastS (iS : Nat) (A : (Nat → Bool) → (Nat → Value) → World → Prop) (B : (Nat → Value) → World → Prop) (L : Nat → Bool) (us : Nat → Value) (w : World) : Prop := (L iS = false ∧ A L us w) ∨ (L iS = true ∧ B us w)
theorem lastS_start {iS : Nat} {A : (Nat → Bool) → (Nat → Value) → World → Prop} {B : (Nat → Value) → World → Prop} {us : Nat → Value} {w : World} (h : A (fun _ => false) us w) : LastS iS A B (fun _ => false) us w := .inl ⟨rfl, h⟩
theorem lastS_open {iS : Nat} {A : (Nat → Bool) → (Nat → Value) → World → Prop} {B : (Nat → Value) → World → Prop} {L : Nat → Bool} {us : Nat → Value} {w : World} (h : LastS iS A B L us w) (hf : L iS = false) : A L us w := by
  rcases h with h | h
  · exact h.2
  · rw [hf] at h; cases h.1
theorem lastS_end {iS : Nat} {A : (Nat → Bool) → (Nat → Value) → World → Prop} {B : (Nat → Value) → World → Prop} {L : Nat → Bool} {us : Nat → Value} {w : World} (h : LastS iS A B L us w) (hf : L iS = true) : B us w := by
  rcases h with h | h
  · rw [hf] at h; cases h.1
  · exact h.2
theorem lastS_step {iS : Nat} {A : (Nat → Bool) → (Nat → Value) → World → Prop} {B : (Nat → Value) → World → Prop} {L : Nat → Bool} {us' : Nat → Value} {w : World} {i : Nat} (hi : iS ≠ i) (hf : L iS = false) (h : A (markd L i) us' w) : LastS iS A B (markd L i) us' w := .inl ⟨by rw [markd_other L hi]; exact hf, h⟩
theorem lastS_late {iS : Nat} {A : (Nat → Bool) → (Nat → Value) → World → Prop} {B : (Nat → Value) → World → Prop} {L : Nat → Bool} {us' : Nat → Value} {w : World} {i : Nat} (hi : iS ≠ i) (hf : L iS = true) (h : B us' w) : LastS iS A B (markd L i) us' w := .inr ⟨by rw [markd_other L hi]; exact hf, h⟩
theorem lastS_last {iS : Nat} {A : (Nat → Bool) → (Nat → Value) → World → Prop} {B : (Nat → Value) → World → Prop} {L : Nat → Bool} {us : Nat → Value} {w : World} (h : B us w) : LastS iS A B (markd L iS) us w := .inr ⟨markd_same L iS, h⟩
theorem type_apart {w : World} {g g' : Nat} {c c' : Array Value} {t t' : TypeId} {z z' : Nat × Nat} (h : w.heap[g]? = some (.cells c t z)) (h' : w.heap[g']? = some (.cells c' t' z')) (hne : t ≠ t') : g ≠ g' := fun e => by
  rw [e, h'] at h
  simp only [Option.some.injEq, Obj.cells.injEq] at h
  exact hne h.2.1.symm
theorem tap_apart {w : World} {p0 : Addr} {n cap : Nat} {tss : List (List Re)} {r p q h k t : Int} {g0 c0 : Nat} {fs : List Leaf} {rest : List Value} {wr : World} (x : St w p0 n cap tss r p q h k t g0 c0 fs rest wr) : w.heap.size ≠ g0 := type_apart x.mv.tap.at' x.out.at' (by decide)
theorem box_apart {wr : World} {g g0 c0 lo hi : Nat} {a b c : Int} {fs : List Leaf} {rest : List Value} (x : Box3 wr g 37 a b c) (y : OwnW g0 c0 fs rest lo hi wr) : g ≠ g0 := type_apart x.at' y.at' (by decide)
set_option maxRecDepth 100000 in
set_option maxHeartbeats 16000000 in
theorem specMove_yes (p0 : Addr) (n cap : Nat) (tss : List (List Re)) (m pn rn : Nat) (q h k t : Int) (w : World) (hx : IsWood w (.slice (some p0) n cap) tss) (hn : n = tss.length) (hn3 : n ≤ 3) (hcap : n ≤ cap) (hm : m < n) (hp : pn < n) (hr : rn < 5) (hall : tss.all treeOk = true) (htap : tapOk rn pn q h k t = true) (hlive : liveIn (treeAt tss m) rn = true) :
    Calls Tryd.prog 7 #[.slice (some p0) n cap, .int .i64 (m : Int), tapV rn pn q h k t] w fun e w' => MoveAns (moveOf tss m rn pn q h k t) (moveM tss m rn pn q h k t) w e w' := by
  have hmay : mayB tss m rn pn q h k t = true := by rw [mayB_rest hall (by omega) htap (by omega) (by omega)]; exact hlive
  have H5 : Hid (∀ i, i < n → (treeAt tss i).length = 5) := fun i hi => treeOk_five (all_at hall (by omega))
  have HTL : Hid (∀ i, (treeAt tss i).length ≤ 1048576) := fun i => by
    by_cases hi : i < n
    · rw [H5.out i hi]; omega
    · simp [treeAt, List.getD, List.getElem?_eq_none (by omega : tss.length ≤ i)]
  have HNL : Hid (n = tss.length) := hn
  obtain ⟨ts, hts⟩ : ∃ x, x = treeAt tss m := ⟨_, rfl⟩
  obtain ⟨re, hre⟩ : ∃ x, x = reAt ts rn := ⟨_, rfl⟩
  obtain ⟨l1, p1, ra, rb, rc⟩ := re
  obtain ⟨N, hN⟩ : ∃ x, x = flowOf rn pn q h k t ra rb rc := ⟨_, rfl⟩
  obtain ⟨A, hA⟩ : ∃ x, x = oneA h N := ⟨_, rfl⟩
  obtain ⟨B, hB⟩ : ∃ x, x = oneB h N := ⟨_, rfl⟩
  obtain ⟨C, hC⟩ : ∃ x, x = oneC h N := ⟨_, rfl⟩
  obtain ⟨ns, hns⟩ : ∃ x, x = payOf ts rn A B C := ⟨_, rfl⟩
  obtain ⟨po, hpo⟩ : ∃ x, x = payOk ts rn A B C := ⟨_, rfl⟩
  obtain ⟨t1, ht1⟩ : ∃ x, x = treeAt (tss.set m ns) pn := ⟨_, rfl⟩
  obtain ⟨bo, hbo⟩ : ∃ x, x = backOk t1 A B C := ⟨_, rfl⟩
  obtain ⟨bs, hbs⟩ : ∃ x, x = backOf t1 q A B C := ⟨_, rfl⟩
  have HTS : Hid (treeAt tss m = ts ∧ ts.length = 5) := ⟨hts.symm, by rw [hts]; exact H5.out m hm⟩
  have HNS : Hid (ns.length = 5) := by show ns.length = 5; rw [hns, payOf_length]; exact HTS.out.2
  have HT1 : Hid (treeAt (tss.set m ns) pn = t1 ∧ t1.length = 5) := ⟨ht1.symm, by rw [ht1, treeAt_set_len (by rw [HNS.out, HTS.out.1, HTS.out.2])]; exact H5.out pn hp⟩
  have HBS : Hid (bs.length = 5) := by show bs.length = 5; rw [hbs, backOf_length]; exact HT1.out.2
  have HRE : Hid (reAt ts rn = ⟨l1, p1, ra, rb, rc⟩) := hre.symm
  have e0 : balAt tss m rn = ⟨l1, p1, ra, rb, rc⟩ := by unfold balAt; simp only [Int.toNat_natCast]; rw [← hts, ← hre]
  have e1 : moveN tss m rn pn q h k t = N := by unfold moveN; rw [e0]; exact hN.symm
  have e2 : paidOf tss m rn pn q h k t = tss.set m ns := by unfold paidOf; rw [e1]; simp only [Int.toNat_natCast]; rw [← hts, ← hA, ← hB, ← hC, ← hns]
  have e3 : moveB tss m rn pn q h k t = bo := by unfold moveB backB; rw [hmay, e1, e2]; simp only [Int.toNat_natCast]; rw [← ht1, ← hA, ← hB, ← hC, ← hbo]; rfl
  have HF1 : Hid (bo = true → moveOf tss m rn pn q h k t = (tss.set m ns).set pn bs ∧ moveM tss m rn pn q h k t = N) := fun e => by
    unfold moveOf moveM
    rw [e3, e, e1, e2]
    refine ⟨?_, if_pos rfl⟩
    rw [if_pos rfl]
    simp only [Int.toNat_natCast]
    rw [← ht1, ← hA, ← hB, ← hC, ← hbs]
  have HF2 : Hid (bo = false → moveOf tss m rn pn q h k t = tss ∧ moveM tss m rn pn q h k t = 0) := fun e => ⟨moveOf_no (by rw [e3]; exact e), moveM_no (by rw [e3]; exact e)⟩
  have CC : Hid (∀ w', IsWood w' (.slice (some p0) n cap) tss → Calls Tryd.prog 23 #[.slice (some p0) n cap] w' fun e w'' => ∃ g c fs rest, e = .returned (.slice (some ⟨g, 0, none⟩) n c) ∧ leafTs fs = tss ∧ OwnW g c fs rest w'.heap.size w''.heap.size w'' ∧ Below w'.heap.size w' w'') := fun w' hb => by
    rw [HNL.out] at hb ⊢
    exact specCopies_any p0 cap tss w' hb (by have := HNL.out; omega) HTL.out
  have CF : Hid (∀ w', Calls Tryd.prog 28 #[tapV rn pn q h k t, amt ra rb rc] w' fun e w'' => e = .returned (.int .i64 N) ∧ Below w'.heap.size w' w'') := fun w' => by rw [hN]; exact specFlow_any rn pn q h k t ra rb rc w'
  have CO := fun w' => (by rw [hA, hB, hC]; exact specOne_b h N w' : Calls Tryd.prog 29 #[.int .i64 h, .int .i64 N] w' fun r w'' => r = .returned (amt A B C) ∧ Below w'.heap.size w' w'')
  have CP : Hid (∀ p c w', IsTree w' (.slice (some p) 5 c) ts → Calls Tryd.prog 30 #[.slice (some p) 5 c, .int .i64 (rn : Int), amt A B C] w' fun e w'' => TreeAns ns.length ns po w' e w'') := fun p c w' hi => by
    have hl := HTS.out.2
    have hx := hi
    rw [← hl] at hx ⊢
    rw [hns, hpo]
    exact (specPay_any p c ts rn A B C w' hx (by omega)).mono fun e w'' h => h.form (by rw [payOf_length])
  have CB : Hid (∀ p c w', IsTree w' (.slice (some p) 5 c) t1 → Calls Tryd.prog 31 #[.slice (some p) 5 c, .int .i64 q, amt A B C] w' fun e w'' => TreeAns bs.length bs bo w' e w'') := fun p c w' hi => by
    have hl := HT1.out.2
    have hx := hi
    rw [← hl] at hx ⊢
    rw [hbs, hbo]
    exact (specBack_any p c t1 q A B C w' hx (by omega)).mono fun e w'' h => h.form (by rw [backOf_length])
  obtain ⟨qa, qb, qc, hq, hc, hu⟩ := hx.at (i := m) (by omega)
  rw [← hts] at hc hu
  have HQA : Hid (p0.add m = qa) := hq
  have hl5 := HTS.out.2
  rw [hl5] at hc hu
  have HCQ : Hid (∀ w', Below w.heap.size w w' → w'.cell? qa = some (.slice (some qb) 5 qc)) := fun w' hb => (hb.cell (World.block_lt_of_cell? w _ hc)).trans hc
  have HUQ : Hid (∀ w', Below w.heap.size w w' → IsTree w' (.slice (some qb) 5 qc) ts) := fun w' hb => hu.on hb
  obtain ⟨q', qr, hqq, hqr, hcc⟩ := hu.at (i := rn) (by omega)
  cases hqq
  rw [← hre] at hcc
  have HC5 : Hid (∀ w', Below w.heap.size w w' → Cells5 w' qr ⟨l1, p1, ra, rb, rc⟩) := fun w' hb => hcc.on hb
  have HR5 : Hid (rn < 5 ∧ qb.add (rn * 5) = qr) := ⟨hr, hqr⟩
  have HQC : Hid (5 ≤ qc) := by
    obtain ⟨a', cap', hv, hc', _⟩ := hu
    simp only [Value.slice.injEq] at hv
    show 5 ≤ qc
    omega
  have HLT : Hid (m < n ∧ n ≤ cap) := ⟨hm, hcap⟩
  have HPM : Hid (pn < n ∧ m < n) := ⟨hp, hm⟩
  have HN3 : Hid (n ≤ 3) := hn3
  have hn6 : n ≤ 1048576 := by omega
  have HX0 : Hid (∀ w', Below w.heap.size w w' → IsWood w' (.slice (some p0) n cap) tss) := fun w' hb => hx.on hb
  have HS00 : Hid (Mv w p0 n cap tss rn pn q h k t (w.alloc (boxT rn pn q h k t))) := mv_start _ _ _ _ _ _ hx
  have hwo : woodOk tss = true := by unfold woodOk; rw [hall, decide_eq_true (by omega : tss.length ≤ 3)]; rfl
  have CK : Hid (∀ w', IsWood w' (.slice (some p0) n cap) tss → Calls Tryd.prog 24 #[.slice (some p0) n cap] w' fun e w'' => e = .returned (.bool true) ∧ Below w'.heap.size w' w'') := fun w' hb => by
    have e := specAll_any _ tss w' hb.trees (by omega) HTL.out
    rw [hwo] at e
    exact e
  have CT2 : Hid (∀ w', Calls Tryd.prog 25 #[tapV rn pn q h k t] w' fun e w'' => e = .returned (.bool true) ∧ Below w'.heap.size w' w'') := fun w' => by
    have e := specTapOk_any rn pn q h k t w'
    rw [htap] at e
    exact e
  have CI : Hid (∀ w', Calls Tryd.prog 26 #[.int .i64 (m : Int), .int .i64 0, .int .i64 ((n : Int) - 1)] w' fun e w'' => e = .returned (.bool true) ∧ w' = w'') := fun w' => by
    have e := l1In_b m 0 ((n : Int) - 1) w'
    rw [inB_yes (by omega) (by omega)] at e
    exact e
  have CL : Hid (∀ w', IsTree w' (.slice (some qb) 5 qc) ts → Calls Tryd.prog 27 #[.slice (some qb) 5 qc, .int .i64 (rn : Int)] w' fun e w'' => e = .returned (.bool true) ∧ Below w'.heap.size w' w'') := fun w' hb => by
    have e := specLive_any _ ts rn w' hb (by omega)
    rw [hts, hlive] at e
    exact e
  clear hwo
  clear hx hn hn3 hcap hm hp hr hall htap hlive hmay hts hre hN hA hB hC hns hpo ht1 hbo hbs e0 e1 e2 e3 hq hc hu hqr hcc hl5
  go_enter Tryd.func7, Tryd.ntmps7
  go_wp2_with fail
  refine (CC.out _ HS00.out.wood).mono ?_
  rintro e w1 ⟨g0, c0, fs0, rest0, rfl, hfs, ho, hb⟩
  have HS : Hid (St w p0 n cap tss (rn : Int) (pn : Int) q h k t g0 c0 fs0 rest0 w1) := ⟨HS00.out.on hb, ho.wide (by simp) (Nat.le_refl _)⟩
  have HFS : Hid (leafTs fs0 = tss ∧ fs0.length = n) := ⟨hfs, by rw [← leafTs_length, hfs]; exact HNL.out.symm⟩
  clear HS00 hb ho hfs
  go_wp2_with fail
  obtain ⟨l, HL⟩ : ∃ l, Hid (l = [.slice (some p0) n cap, .bool true, .bool false, .bool false, tapV rn pn q h k t, .bool true, .bool false, .bool false, .bool false, .int .i64 (m : Int), .slice (some p0) n cap, .int .i64 (n : Int), .int .i64 ((n : Int) - 1), .bool true, .bool false, .bool false, .bool false, .pointer (some ⟨w.heap.size, 1, none⟩), .int .i64 (pn : Int), .slice (some p0) n cap, .int .i64 (n : Int), .bool false, .bool false, .bool false, .slice (some p0) n cap, .int .i64 (m : Int), .pointer (some qa), .pointer (some qa), .slice (some qb) 5 qc, .pointer (some ⟨w.heap.size, 0, none⟩), .int .i64 (rn : Int), .bool true, .bool false, .bool false] ∧ True) := ⟨_, rfl, trivial⟩
  refine wp_region_whole (by kernel_rfl) (by kernel_rfl) (by kernel_rfl) (by kernel_rfl) (Flat (fun wz => St w p0 n cap tss (rn : Int) (pn : Int) q h k t g0 c0 fs0 rest0 wz) (gVals l)) (flat_start (HS.out.on (below_draw _))) ?_ ?_
  · refine ⟨?_, ?_, ?_, ?_, ?_, ?_, ?_, ?_, ?_, ?_, ?_, ?_, ?_, ?_, ?_, ?_, ?_, ?_, ?_, ?_, ?_, ?_, ?_, ?_, ?_, ?_, ?_, ?_, ?_, ?_, ?_, ?_, ?_, ?_, trivial⟩
    · intro b0 us wz L hslot hoth hLi hR hcl hdo K hK
      rcases HL.out with ⟨rfl, hf⟩
      · have s0 : b0.tmps.getD 0 undef = .slice (some p0) n cap := hoth 0 (by rfl)
        clear hslot hoth hdo hcl hLi
        refine guard_none (by rfl) ?_
        go_simp
        exact hK _ _ (flat_mark (hR.1) (fun _ _ h => h) hR.2 rfl)
    · intro b0 us wz L hslot hoth hLi hR hcl hdo K hK
      rcases HL.out with ⟨rfl, hf⟩
      · have s17 : b0.tmps.getD 17 undef = .slice (some p0) n cap := (hslot 0 17 (by rfl)).trans (hR.2 0 (done_at hdo 0 (by rfl)))
        clear hslot hoth hdo hcl hLi
        refine guard_none (by rfl) ?_
        go_simp
        refine (CK.out wz hR.1.mv.wood).mono ?_
        rintro e w' ⟨rfl, hb⟩
        exact hK _ _ (flat_mark (hR.1.on hb) (fun _ _ h => h) hR.2 rfl)
    · intro b0 us wz L hslot hoth hLi hR hcl hdo K hK
      rcases HL.out with ⟨rfl, hf⟩
      · have s18 : b0.tmps.getD 18 undef = .bool true := (hslot 1 18 (by rfl)).trans (hR.2 1 (done_at hdo 1 (by rfl)))
        clear hslot hoth hdo hcl hLi
        refine guard_none (by rfl) ?_
        go_simp
        exact hK _ _ (flat_mark (hR.1) (fun _ _ h => h) hR.2 rfl)
    · intro b0 us wz L hslot hoth hLi hR hcl hdo K hK
      rcases HL.out with ⟨rfl, hf⟩
      · have s19 : b0.tmps.getD 19 undef = .bool false := (hslot 2 19 (by rfl)).trans (hR.2 2 (done_at hdo 2 (by rfl)))
        clear hslot hoth hdo hcl hLi
        refine guard_none (by rfl) ?_
        go_simp
        exact hK _ _ (flat_mark (hR.1) (fun _ _ h => h) hR.2 rfl)
    · intro b0 us wz L hslot hoth hLi hR hcl hdo K hK
      rcases HL.out with ⟨rfl, hf⟩
      · have gg : us 3 = .bool false := hR.2 3 (done_at hdo 3 (by rfl))
        have s5 : b0.tmps.getD 5 undef = .pointer (some ⟨w.heap.size, 0, none⟩) := hoth 5 (by rfl)
        have t0 := (hR.1.mv.tap).c0
        have t1 := (hR.1.mv.tap).c1
        have t2 := (hR.1.mv.tap).c2
        have t3 := (hR.1.mv.tap).c3
        have t4 := (hR.1.mv.tap).c4
        have t5 := (hR.1.mv.tap).c5
        clear hslot hoth hdo hcl hLi
        refine guard_on (j := 3) (want := false) (d := 20) (by rfl) (by rfl) gg ?_
        go_simp
        exact hK _ _ (flat_mark (hR.1) (fun _ _ h => h) hR.2 rfl)
    · intro b0 us wz L hslot hoth hLi hR hcl hdo K hK
      rcases HL.out with ⟨rfl, hf⟩
      · have gg : us 3 = .bool false := hR.2 3 (done_at hdo 3 (by rfl))
        have s21 : b0.tmps.getD 21 undef = tapV rn pn q h k t := (hslot 4 21 (by rfl)).trans (hR.2 4 (done_at hdo 4 (by rfl)))
        clear hslot hoth hdo hcl hLi
        refine guard_on (j := 3) (want := false) (d := 20) (by rfl) (by rfl) gg ?_
        go_simp
        refine (CT2.out wz).mono ?_
        rintro e w' ⟨rfl, hb⟩
        exact hK _ _ (flat_mark (hR.1.on hb) (fun _ _ h => h) hR.2 rfl)
    · intro b0 us wz L hslot hoth hLi hR hcl hdo K hK
      rcases HL.out with ⟨rfl, hf⟩
      · have gg : us 3 = .bool false := hR.2 3 (done_at hdo 3 (by rfl))
        have s22 : b0.tmps.getD 22 undef = .bool true := (hslot 5 22 (by rfl)).trans (hR.2 5 (done_at hdo 5 (by rfl)))
        clear hslot hoth hdo hcl hLi
        refine guard_on (j := 3) (want := false) (d := 20) (by rfl) (by rfl) gg ?_
        go_simp
        exact hK _ _ (flat_mark (hR.1) (fun _ _ h => h) hR.2 rfl)
    · intro b0 us wz L hslot hoth hLi hR hcl hdo K hK
      rcases HL.out with ⟨rfl, hf⟩
      · have s20 : b0.tmps.getD 20 undef = .bool false := (hslot 3 20 (by rfl)).trans (hR.2 3 (done_at hdo 3 (by rfl)))
        have s23 : b0.tmps.getD 23 undef = .bool false := (hslot 6 23 (by rfl)).trans (hR.2 6 (done_at hdo 6 (by rfl)))
        clear hslot hoth hdo hcl hLi
        refine guard_none (by rfl) ?_
        go_simp
        exact hK _ _ (flat_mark (hR.1) (fun _ _ h => h) hR.2 rfl)
    · intro b0 us wz L hslot hoth hLi hR hcl hdo K hK
      rcases HL.out with ⟨rfl, hf⟩
      · have s24 : b0.tmps.getD 24 undef = .bool false := (hslot 7 24 (by rfl)).trans (hR.2 7 (done_at hdo 7 (by rfl)))
        clear hslot hoth hdo hcl hLi
        refine guard_none (by rfl) ?_
        go_simp
        exact hK _ _ (flat_mark (hR.1) (fun _ _ h => h) hR.2 rfl)
    · intro b0 us wz L hslot hoth hLi hR hcl hdo K hK
      rcases HL.out with ⟨rfl, hf⟩
      · have gg : us 8 = .bool false := hR.2 8 (done_at hdo 8 (by rfl))
        have s1 : b0.tmps.getD 1 undef = .int .i64 (m : Int) := hoth 1 (by rfl)
        clear hslot hoth hdo hcl hLi
        refine guard_on (j := 8) (want := false) (d := 25) (by rfl) (by rfl) gg ?_
        go_simp
        exact hK _ _ (flat_mark (hR.1) (fun _ _ h => h) hR.2 rfl)
    · intro b0 us wz L hslot hoth hLi hR hcl hdo K hK
      rcases HL.out with ⟨rfl, hf⟩
      · have gg : us 8 = .bool false := hR.2 8 (done_at hdo 8 (by rfl))
        have s0 : b0.tmps.getD 0 undef = .slice (some p0) n cap := hoth 0 (by rfl)
        clear hslot hoth hdo hcl hLi
        refine guard_on (j := 8) (want := false) (d := 25) (by rfl) (by rfl) gg ?_
        go_simp
        exact hK _ _ (flat_mark (hR.1) (fun _ _ h => h) hR.2 rfl)
    · intro b0 us wz L hslot hoth hLi hR hcl hdo K hK
      rcases HL.out with ⟨rfl, hf⟩
      · have gg : us 8 = .bool false := hR.2 8 (done_at hdo 8 (by rfl))
        have s27 : b0.tmps.getD 27 undef = .slice (some p0) n cap := (hslot 10 27 (by rfl)).trans (hR.2 10 (done_at hdo 10 (by rfl)))
        clear hslot hoth hdo hcl hLi
        refine guard_on (j := 8) (want := false) (d := 25) (by rfl) (by rfl) gg ?_
        go_simp
        exact hK _ _ (flat_mark (hR.1) (fun _ _ h => h) hR.2 rfl)
    · intro b0 us wz L hslot hoth hLi hR hcl hdo K hK
      rcases HL.out with ⟨rfl, hf⟩
      · have gg : us 8 = .bool false := hR.2 8 (done_at hdo 8 (by rfl))
        have s28 : b0.tmps.getD 28 undef = .int .i64 (n : Int) := (hslot 11 28 (by rfl)).trans (hR.2 11 (done_at hdo 11 (by rfl)))
        have hw : IntKind.i64.wrap ((n : Int) - 1) = (n : Int) - 1 := wraps_i64 _ (by have := HLT.out.1; omega) (by have := HN3.out; omega)
        clear hslot hoth hdo hcl hLi
        refine guard_on (j := 8) (want := false) (d := 25) (by rfl) (by rfl) gg ?_
        go_simp
        exact hK _ _ (flat_mark (hR.1) (fun _ _ h => h) hR.2 rfl)
    · intro b0 us wz L hslot hoth hLi hR hcl hdo K hK
      rcases HL.out with ⟨rfl, hf⟩
      · have gg : us 8 = .bool false := hR.2 8 (done_at hdo 8 (by rfl))
        have s26 : b0.tmps.getD 26 undef = .int .i64 (m : Int) := (hslot 9 26 (by rfl)).trans (hR.2 9 (done_at hdo 9 (by rfl)))
        have s29 : b0.tmps.getD 29 undef = .int .i64 ((n : Int) - 1) := (hslot 12 29 (by rfl)).trans (hR.2 12 (done_at hdo 12 (by rfl)))
        clear hslot hoth hdo hcl hLi
        refine guard_on (j := 8) (want := false) (d := 25) (by rfl) (by rfl) gg ?_
        go_simp
        refine (CI.out wz).mono ?_
        rintro e w' ⟨rfl, rfl⟩
        exact hK _ _ (flat_mark hR.1 (fun _ _ h => h) hR.2 rfl)
    · intro b0 us wz L hslot hoth hLi hR hcl hdo K hK
      rcases HL.out with ⟨rfl, hf⟩
      · have gg : us 8 = .bool false := hR.2 8 (done_at hdo 8 (by rfl))
        have s30 : b0.tmps.getD 30 undef = .bool true := (hslot 13 30 (by rfl)).trans (hR.2 13 (done_at hdo 13 (by rfl)))
        clear hslot hoth hdo hcl hLi
        refine guard_on (j := 8) (want := false) (d := 25) (by rfl) (by rfl) gg ?_
        go_simp
        exact hK _ _ (flat_mark (hR.1) (fun _ _ h => h) hR.2 rfl)
    · intro b0 us wz L hslot hoth hLi hR hcl hdo K hK
      rcases HL.out with ⟨rfl, hf⟩
      · have s25 : b0.tmps.getD 25 undef = .bool false := (hslot 8 25 (by rfl)).trans (hR.2 8 (done_at hdo 8 (by rfl)))
        have s31 : b0.tmps.getD 31 undef = .bool false := (hslot 14 31 (by rfl)).trans (hR.2 14 (done_at hdo 14 (by rfl)))
        clear hslot hoth hdo hcl hLi
        refine guard_none (by rfl) ?_
        go_simp
        exact hK _ _ (flat_mark (hR.1) (fun _ _ h => h) hR.2 rfl)
    · intro b0 us wz L hslot hoth hLi hR hcl hdo K hK
      rcases HL.out with ⟨rfl, hf⟩
      · have s32 : b0.tmps.getD 32 undef = .bool false := (hslot 15 32 (by rfl)).trans (hR.2 15 (done_at hdo 15 (by rfl)))
        clear hslot hoth hdo hcl hLi
        refine guard_none (by rfl) ?_
        go_simp
        exact hK _ _ (flat_mark (hR.1) (fun _ _ h => h) hR.2 rfl)
    · intro b0 us wz L hslot hoth hLi hR hcl hdo K hK
      rcases HL.out with ⟨rfl, hf⟩
      · have gg : us 16 = .bool false := hR.2 16 (done_at hdo 16 (by rfl))
        have s5 : b0.tmps.getD 5 undef = .pointer (some ⟨w.heap.size, 0, none⟩) := hoth 5 (by rfl)
        clear hslot hoth hdo hcl hLi
        refine guard_on (j := 16) (want := false) (d := 33) (by rfl) (by rfl) gg ?_
        go_simp
        exact hK _ _ (flat_mark (hR.1) (fun _ _ h => h) hR.2 rfl)
    · intro b0 us wz L hslot hoth hLi hR hcl hdo K hK
      rcases HL.out with ⟨rfl, hf⟩
      · have gg : us 16 = .bool false := hR.2 16 (done_at hdo 16 (by rfl))
        have s34 : b0.tmps.getD 34 undef = .pointer (some ⟨w.heap.size, 1, none⟩) := (hslot 17 34 (by rfl)).trans (hR.2 17 (done_at hdo 17 (by rfl)))
        have t0 := (hR.1.mv.tap).c0
        have t1 := (hR.1.mv.tap).c1
        have t2 := (hR.1.mv.tap).c2
        have t3 := (hR.1.mv.tap).c3
        have t4 := (hR.1.mv.tap).c4
        have t5 := (hR.1.mv.tap).c5
        clear hslot hoth hdo hcl hLi
        refine guard_on (j := 16) (want := false) (d := 33) (by rfl) (by rfl) gg ?_
        go_simp
        exact hK _ _ (flat_mark (hR.1) (fun _ _ h => h) hR.2 rfl)
    · intro b0 us wz L hslot hoth hLi hR hcl hdo K hK
      rcases HL.out with ⟨rfl, hf⟩
      · have gg : us 16 = .bool false := hR.2 16 (done_at hdo 16 (by rfl))
        have s0 : b0.tmps.getD 0 undef = .slice (some p0) n cap := hoth 0 (by rfl)
        clear hslot hoth hdo hcl hLi
        refine guard_on (j := 16) (want := false) (d := 33) (by rfl) (by rfl) gg ?_
        go_simp
        exact hK _ _ (flat_mark (hR.1) (fun _ _ h => h) hR.2 rfl)
    · intro b0 us wz L hslot hoth hLi hR hcl hdo K hK
      rcases HL.out with ⟨rfl, hf⟩
      · have gg : us 16 = .bool false := hR.2 16 (done_at hdo 16 (by rfl))
        have s36 : b0.tmps.getD 36 undef = .slice (some p0) n cap := (hslot 19 36 (by rfl)).trans (hR.2 19 (done_at hdo 19 (by rfl)))
        clear hslot hoth hdo hcl hLi
        refine guard_on (j := 16) (want := false) (d := 33) (by rfl) (by rfl) gg ?_
        go_simp
        exact hK _ _ (flat_mark (hR.1) (fun _ _ h => h) hR.2 rfl)
    · intro b0 us wz L hslot hoth hLi hR hcl hdo K hK
      rcases HL.out with ⟨rfl, hf⟩
      · have gg : us 16 = .bool false := hR.2 16 (done_at hdo 16 (by rfl))
        have s35 : b0.tmps.getD 35 undef = .int .i64 (pn : Int) := (hslot 18 35 (by rfl)).trans (hR.2 18 (done_at hdo 18 (by rfl)))
        have s37 : b0.tmps.getD 37 undef = .int .i64 (n : Int) := (hslot 20 37 (by rfl)).trans (hR.2 20 (done_at hdo 20 (by rfl)))
        have hpn : ¬ ((n : Int) ≤ (pn : Int)) := by have := HPM.out.1; omega
        clear hslot hoth hdo hcl hLi
        refine guard_on (j := 16) (want := false) (d := 33) (by rfl) (by rfl) gg ?_
        go_simp
        exact hK _ _ (flat_mark (hR.1) (fun _ _ h => h) hR.2 rfl)
    · intro b0 us wz L hslot hoth hLi hR hcl hdo K hK
      rcases HL.out with ⟨rfl, hf⟩
      · have s33 : b0.tmps.getD 33 undef = .bool false := (hslot 16 33 (by rfl)).trans (hR.2 16 (done_at hdo 16 (by rfl)))
        have s38 : b0.tmps.getD 38 undef = .bool false := (hslot 21 38 (by rfl)).trans (hR.2 21 (done_at hdo 21 (by rfl)))
        clear hslot hoth hdo hcl hLi
        refine guard_none (by rfl) ?_
        go_simp
        exact hK _ _ (flat_mark (hR.1) (fun _ _ h => h) hR.2 rfl)
    · intro b0 us wz L hslot hoth hLi hR hcl hdo K hK
      rcases HL.out with ⟨rfl, hf⟩
      · have s39 : b0.tmps.getD 39 undef = .bool false := (hslot 22 39 (by rfl)).trans (hR.2 22 (done_at hdo 22 (by rfl)))
        clear hslot hoth hdo hcl hLi
        refine guard_none (by rfl) ?_
        go_simp
        exact hK _ _ (flat_mark (hR.1) (fun _ _ h => h) hR.2 rfl)
    · intro b0 us wz L hslot hoth hLi hR hcl hdo K hK
      rcases HL.out with ⟨rfl, hf⟩
      · have gg : us 23 = .bool false := hR.2 23 (done_at hdo 23 (by rfl))
        have s0 : b0.tmps.getD 0 undef = .slice (some p0) n cap := hoth 0 (by rfl)
        clear hslot hoth hdo hcl hLi
        refine guard_on (j := 23) (want := false) (d := 40) (by rfl) (by rfl) gg ?_
        go_simp
        exact hK _ _ (flat_mark (hR.1) (fun _ _ h => h) hR.2 rfl)
    · intro b0 us wz L hslot hoth hLi hR hcl hdo K hK
      rcases HL.out with ⟨rfl, hf⟩
      · have gg : us 23 = .bool false := hR.2 23 (done_at hdo 23 (by rfl))
        have s1 : b0.tmps.getD 1 undef = .int .i64 (m : Int) := hoth 1 (by rfl)
        clear hslot hoth hdo hcl hLi
        refine guard_on (j := 23) (want := false) (d := 40) (by rfl) (by rfl) gg ?_
        go_simp
        exact hK _ _ (flat_mark (hR.1) (fun _ _ h => h) hR.2 rfl)
    · intro b0 us wz L hslot hoth hLi hR hcl hdo K hK
      rcases HL.out with ⟨rfl, hf⟩
      · have gg : us 23 = .bool false := hR.2 23 (done_at hdo 23 (by rfl))
        have s41 : b0.tmps.getD 41 undef = .slice (some p0) n cap := (hslot 24 41 (by rfl)).trans (hR.2 24 (done_at hdo 24 (by rfl)))
        have s42 : b0.tmps.getD 42 undef = .int .i64 (m : Int) := (hslot 25 42 (by rfl)).trans (hR.2 25 (done_at hdo 25 (by rfl)))
        have hmn : m < n := HLT.out.1
        have hcap0 : n ≤ cap := HLT.out.2
        have hq : p0.add m = qa := HQA.out
        clear hslot hoth hdo hcl hLi
        refine guard_on (j := 23) (want := false) (d := 40) (by rfl) (by rfl) gg ?_
        go_simp
        exact hK _ _ (flat_mark (hR.1) (fun _ _ h => h) hR.2 rfl)
    · intro b0 us wz L hslot hoth hLi hR hcl hdo K hK
      rcases HL.out with ⟨rfl, hf⟩
      · have gg : us 23 = .bool false := hR.2 23 (done_at hdo 23 (by rfl))
        have s43 : b0.tmps.getD 43 undef = .pointer (some qa) := (hslot 26 43 (by rfl)).trans (hR.2 26 (done_at hdo 26 (by rfl)))
        clear hslot hoth hdo hcl hLi
        refine guard_on (j := 23) (want := false) (d := 40) (by rfl) (by rfl) gg ?_
        go_simp
        exact hK _ _ (flat_mark (hR.1) (fun _ _ h => h) hR.2 rfl)
    · intro b0 us wz L hslot hoth hLi hR hcl hdo K hK
      rcases HL.out with ⟨rfl, hf⟩
      · have gg : us 23 = .bool false := hR.2 23 (done_at hdo 23 (by rfl))
        have s44 : b0.tmps.getD 44 undef = .pointer (some qa) := (hslot 27 44 (by rfl)).trans (hR.2 27 (done_at hdo 27 (by rfl)))
        have hc : wz.cell? qa = some (.slice (some qb) 5 qc) := HCQ.out _ hR.1.mv.below
        clear hslot hoth hdo hcl hLi
        refine guard_on (j := 23) (want := false) (d := 40) (by rfl) (by rfl) gg ?_
        go_simp
        exact hK _ _ (flat_mark (hR.1) (fun _ _ h => h) hR.2 rfl)
    · intro b0 us wz L hslot hoth hLi hR hcl hdo K hK
      rcases HL.out with ⟨rfl, hf⟩
      · have gg : us 23 = .bool false := hR.2 23 (done_at hdo 23 (by rfl))
        have s5 : b0.tmps.getD 5 undef = .pointer (some ⟨w.heap.size, 0, none⟩) := hoth 5 (by rfl)
        clear hslot hoth hdo hcl hLi
        refine guard_on (j := 23) (want := false) (d := 40) (by rfl) (by rfl) gg ?_
        go_simp
        exact hK _ _ (flat_mark (hR.1) (fun _ _ h => h) hR.2 rfl)
    · intro b0 us wz L hslot hoth hLi hR hcl hdo K hK
      rcases HL.out with ⟨rfl, hf⟩
      · have gg : us 23 = .bool false := hR.2 23 (done_at hdo 23 (by rfl))
        have s46 : b0.tmps.getD 46 undef = .pointer (some ⟨w.heap.size, 0, none⟩) := (hslot 29 46 (by rfl)).trans (hR.2 29 (done_at hdo 29 (by rfl)))
        have t0 := (hR.1.mv.tap).c0
        have t1 := (hR.1.mv.tap).c1
        have t2 := (hR.1.mv.tap).c2
        have t3 := (hR.1.mv.tap).c3
        have t4 := (hR.1.mv.tap).c4
        have t5 := (hR.1.mv.tap).c5
        clear hslot hoth hdo hcl hLi
        refine guard_on (j := 23) (want := false) (d := 40) (by rfl) (by rfl) gg ?_
        go_simp
        exact hK _ _ (flat_mark (hR.1) (fun _ _ h => h) hR.2 rfl)
    · intro b0 us wz L hslot hoth hLi hR hcl hdo K hK
      rcases HL.out with ⟨rfl, hf⟩
      · have gg : us 23 = .bool false := hR.2 23 (done_at hdo 23 (by rfl))
        have s45 : b0.tmps.getD 45 undef = .slice (some qb) 5 qc := (hslot 28 45 (by rfl)).trans (hR.2 28 (done_at hdo 28 (by rfl)))
        have s47 : b0.tmps.getD 47 undef = .int .i64 (rn : Int) := (hslot 30 47 (by rfl)).trans (hR.2 30 (done_at hdo 30 (by rfl)))
        clear hslot hoth hdo hcl hLi
        refine guard_on (j := 23) (want := false) (d := 40) (by rfl) (by rfl) gg ?_
        go_simp
        refine (CL.out wz (HUQ.out _ hR.1.mv.below)).mono ?_
        rintro e w' ⟨rfl, hb⟩
        exact hK _ _ (flat_mark (hR.1.on hb) (fun _ _ h => h) hR.2 rfl)
    · intro b0 us wz L hslot hoth hLi hR hcl hdo K hK
      rcases HL.out with ⟨rfl, hf⟩
      · have gg : us 23 = .bool false := hR.2 23 (done_at hdo 23 (by rfl))
        have s48 : b0.tmps.getD 48 undef = .bool true := (hslot 31 48 (by rfl)).trans (hR.2 31 (done_at hdo 31 (by rfl)))
        clear hslot hoth hdo hcl hLi
        refine guard_on (j := 23) (want := false) (d := 40) (by rfl) (by rfl) gg ?_
        go_simp
        exact hK _ _ (flat_mark (hR.1) (fun _ _ h => h) hR.2 rfl)
    · intro b0 us wz L hslot hoth hLi hR hcl hdo K hK
      rcases HL.out with ⟨rfl, hf⟩
      · have s40 : b0.tmps.getD 40 undef = .bool false := (hslot 23 40 (by rfl)).trans (hR.2 23 (done_at hdo 23 (by rfl)))
        have s49 : b0.tmps.getD 49 undef = .bool false := (hslot 32 49 (by rfl)).trans (hR.2 32 (done_at hdo 32 (by rfl)))
        clear hslot hoth hdo hcl hLi
        refine guard_none (by rfl) ?_
        go_simp
        exact hK _ _ (flat_mark (hR.1) (fun _ _ h => h) hR.2 rfl)
  · intro us wn L hall hR a' ha'
    have g33 : us 33 = .bool false := by
      have := hR.2 33 (hall 33 (by decide))
      rcases HL.out with ⟨rfl, _⟩
      all_goals exact this
    have HB := hid_of hR.1
    clear hR hall
    simp only [putAll, g33] at ha'
    subst ha'
    go_frame
    have HS1 := HB
    clear HB HL l HS CK CT2 CI CL
    have HS := HS1
    clear HS1
    go_wp2_with fail
    refine wp_region_whole (by kernel_rfl) (by kernel_rfl) (by kernel_rfl) (by kernel_rfl) (Flat (fun wz => St w p0 n cap tss (rn : Int) (pn : Int) q h k t g0 c0 fs0 rest0 wz) (gVals [tapV rn pn q h k t, .slice (some p0) n cap, .int .i64 (m : Int), .pointer (some qa), .pointer (some qa), .slice (some qb) 5 qc, .pointer (some ⟨w.heap.size, 0, none⟩), .int .i64 (rn : Int), .pointer (some qr), .pointer (some ⟨qr.block, qr.off + 2, none⟩), amt ra rb rc, .int .i64 N, .int .i64 N])) (flat_start (HS.out.on (below_draw _))) ?_ ?_
    · refine ⟨?_, ?_, ?_, ?_, ?_, ?_, ?_, ?_, ?_, ?_, ?_, ?_, ?_, trivial⟩
      · intro b0 us wz L hslot hoth hLi hR hcl hdo K hK
        have s5 : b0.tmps.getD 5 undef = .pointer (some ⟨w.heap.size, 0, none⟩) := hoth 5 (by rfl)
        have t0 := (hR.1.mv.tap).c0
        have t1 := (hR.1.mv.tap).c1
        have t2 := (hR.1.mv.tap).c2
        have t3 := (hR.1.mv.tap).c3
        have t4 := (hR.1.mv.tap).c4
        have t5 := (hR.1.mv.tap).c5
        clear hslot hoth hdo hcl hLi
        refine guard_none (by rfl) ?_
        go_simp
        exact hK _ _ (flat_mark (hR.1) (fun _ _ h => h) hR.2 rfl)
      · intro b0 us wz L hslot hoth hLi hR hcl hdo K hK
        have s0 : b0.tmps.getD 0 undef = .slice (some p0) n cap := hoth 0 (by rfl)
        clear hslot hoth hdo hcl hLi
        refine guard_none (by rfl) ?_
        go_simp
        exact hK _ _ (flat_mark (hR.1) (fun _ _ h => h) hR.2 rfl)
      · intro b0 us wz L hslot hoth hLi hR hcl hdo K hK
        have s1 : b0.tmps.getD 1 undef = .int .i64 (m : Int) := hoth 1 (by rfl)
        clear hslot hoth hdo hcl hLi
        refine guard_none (by rfl) ?_
        go_simp
        exact hK _ _ (flat_mark (hR.1) (fun _ _ h => h) hR.2 rfl)
      · intro b0 us wz L hslot hoth hLi hR hcl hdo K hK
        have s53 : b0.tmps.getD 53 undef = .slice (some p0) n cap := (hslot 1 53 (by rfl)).trans (hR.2 1 (done_at hdo 1 (by rfl)))
        have s54 : b0.tmps.getD 54 undef = .int .i64 (m : Int) := (hslot 2 54 (by rfl)).trans (hR.2 2 (done_at hdo 2 (by rfl)))
        have hmn : m < n := HLT.out.1
        have hcap0 : n ≤ cap := HLT.out.2
        have hq : p0.add m = qa := HQA.out
        clear hslot hoth hdo hcl hLi
        refine guard_none (by rfl) ?_
        go_simp
        exact hK _ _ (flat_mark (hR.1) (fun _ _ h => h) hR.2 rfl)
      · intro b0 us wz L hslot hoth hLi hR hcl hdo K hK
        have s55 : b0.tmps.getD 55 undef = .pointer (some qa) := (hslot 3 55 (by rfl)).trans (hR.2 3 (done_at hdo 3 (by rfl)))
        clear hslot hoth hdo hcl hLi
        refine guard_none (by rfl) ?_
        go_simp
        exact hK _ _ (flat_mark (hR.1) (fun _ _ h => h) hR.2 rfl)
      · intro b0 us wz L hslot hoth hLi hR hcl hdo K hK
        have s56 : b0.tmps.getD 56 undef = .pointer (some qa) := (hslot 4 56 (by rfl)).trans (hR.2 4 (done_at hdo 4 (by rfl)))
        have hc : wz.cell? qa = some (.slice (some qb) 5 qc) := HCQ.out _ hR.1.mv.below
        clear hslot hoth hdo hcl hLi
        refine guard_none (by rfl) ?_
        go_simp
        exact hK _ _ (flat_mark (hR.1) (fun _ _ h => h) hR.2 rfl)
      · intro b0 us wz L hslot hoth hLi hR hcl hdo K hK
        have s5 : b0.tmps.getD 5 undef = .pointer (some ⟨w.heap.size, 0, none⟩) := hoth 5 (by rfl)
        clear hslot hoth hdo hcl hLi
        refine guard_none (by rfl) ?_
        go_simp
        exact hK _ _ (flat_mark (hR.1) (fun _ _ h => h) hR.2 rfl)
      · intro b0 us wz L hslot hoth hLi hR hcl hdo K hK
        have s58 : b0.tmps.getD 58 undef = .pointer (some ⟨w.heap.size, 0, none⟩) := (hslot 6 58 (by rfl)).trans (hR.2 6 (done_at hdo 6 (by rfl)))
        have t0 := (hR.1.mv.tap).c0
        have t1 := (hR.1.mv.tap).c1
        have t2 := (hR.1.mv.tap).c2
        have t3 := (hR.1.mv.tap).c3
        have t4 := (hR.1.mv.tap).c4
        have t5 := (hR.1.mv.tap).c5
        clear hslot hoth hdo hcl hLi
        refine guard_none (by rfl) ?_
        go_simp
        exact hK _ _ (flat_mark (hR.1) (fun _ _ h => h) hR.2 rfl)
      · intro b0 us wz L hslot hoth hLi hR hcl hdo K hK
        have s57 : b0.tmps.getD 57 undef = .slice (some qb) 5 qc := (hslot 5 57 (by rfl)).trans (hR.2 5 (done_at hdo 5 (by rfl)))
        have s59 : b0.tmps.getD 59 undef = .int .i64 (rn : Int) := (hslot 7 59 (by rfl)).trans (hR.2 7 (done_at hdo 7 (by rfl)))
        have hr5 : rn < 5 := HR5.out.1
        have hri : (rn : Int) < 5 := by omega
        have hqr : qb.add (rn * 5) = qr := HR5.out.2
        have hqc : 5 ≤ qc := HQC.out
        clear hslot hoth hdo hcl hLi
        refine guard_none (by rfl) ?_
        go_simp
        exact hK _ _ (flat_mark (hR.1) (fun _ _ h => h) hR.2 rfl)
      · intro b0 us wz L hslot hoth hLi hR hcl hdo K hK
        have s60 : b0.tmps.getD 60 undef = .pointer (some qr) := (hslot 8 60 (by rfl)).trans (hR.2 8 (done_at hdo 8 (by rfl)))
        clear hslot hoth hdo hcl hLi
        refine guard_none (by rfl) ?_
        go_simp
        exact hK _ _ (flat_mark (hR.1) (fun _ _ h => h) hR.2 rfl)
      · intro b0 us wz L hslot hoth hLi hR hcl hdo K hK
        have s61 : b0.tmps.getD 61 undef = .pointer (some ⟨qr.block, qr.off + 2, none⟩) := (hslot 9 61 (by rfl)).trans (hR.2 9 (done_at hdo 9 (by rfl)))
        have cc := HC5.out _ hR.1.mv.below
        have k2 := cc.c2
        have k3 := cc.c3
        have k4 := cc.c4
        simp only at k2 k3 k4
        clear cc
        clear hslot hoth hdo hcl hLi
        refine guard_none (by rfl) ?_
        go_simp
        exact hK _ _ (flat_mark (hR.1) (fun _ _ h => h) hR.2 rfl)
      · intro b0 us wz L hslot hoth hLi hR hcl hdo K hK
        have s52 : b0.tmps.getD 52 undef = tapV rn pn q h k t := (hslot 0 52 (by rfl)).trans (hR.2 0 (done_at hdo 0 (by rfl)))
        have s62 : b0.tmps.getD 62 undef = amt ra rb rc := (hslot 10 62 (by rfl)).trans (hR.2 10 (done_at hdo 10 (by rfl)))
        clear hslot hoth hdo hcl hLi
        refine guard_none (by rfl) ?_
        go_simp
        refine (CF.out wz).mono ?_
        rintro e w' ⟨rfl, hb⟩
        exact hK _ _ (flat_mark (hR.1.on hb) (fun _ _ h => h) hR.2 rfl)
      · intro b0 us wz L hslot hoth hLi hR hcl hdo K hK
        have s63 : b0.tmps.getD 63 undef = .int .i64 N := (hslot 11 63 (by rfl)).trans (hR.2 11 (done_at hdo 11 (by rfl)))
        clear hslot hoth hdo hcl hLi
        refine guard_none (by rfl) ?_
        go_simp
        exact hK _ _ (flat_mark (hR.1) (fun _ _ h => h) hR.2 rfl)
    · intro us wn L hall hR a' ha'
      have g12 : us 12 = .int .i64 N := hR.2 12 (hall 12 (by decide))
      have HSN := hid_of hR.1
      clear hR hall
      simp only [putAll, g12] at ha'
      subst ha'
      go_frame
      have t3 := HSN.out.mv.tap.c3
      go_wp2_with fail
      refine (CO _).mono ?_
      rintro e w5 ⟨rfl, hb⟩
      have HS5 : Hid (St w p0 n cap tss (rn : Int) (pn : Int) q h k t g0 c0 fs0 rest0 (w5.alloc (boxA A B C))) := (HSN.out.on hb).on (below_alloc w5 (boxA A B C))
      have HA5 : Hid (Box3 (w5.alloc (boxA A B C)) w5.heap.size 37 A B C) := ⟨heap_alloc_new w5 _⟩
      clear CO hb HSN HS t3
      go_wp2_with fail
      obtain ⟨V5, hV⟩ : ∃ V, V = w5.alloc (boxA A B C) := ⟨_, rfl⟩
      obtain ⟨ga, hga⟩ : ∃ g, g = w5.heap.size := ⟨_, rfl⟩
      rw [← hV] at HS5 HA5 ⊢
      rw [← hga] at HA5 ⊢
      clear hV hga
      refine wp_region_whole (by kernel_rfl) (by kernel_rfl) (by kernel_rfl) (by kernel_rfl) (CallQ V5 (fun wz => St w p0 n cap tss (rn : Int) (pn : Int) q h k t g0 c0 fs0 rest0 wz ∧ Box3 wz ga 37 A B C) ns (fun j => !([8, 9, 10, 11, 12, 13].contains j)) [.slice (some p0) n cap, .int .i64 (m : Int), .pointer (some qa), .pointer (some qa), .slice (some qb) 5 qc, .pointer (some ⟨w.heap.size, 0, none⟩), .int .i64 (rn : Int), amt A B C, undef, undef, undef, undef, undef, undef] (fun s => [undef, undef, undef, undef, undef, undef, undef, undef, .tuple #[s, .bool po], .tuple #[s, .bool po], s, .bool po, s, .bool po])) (fun us => callQ_start ns _ _ _ us ⟨HS5.out.on (below_draw _), box_on HA5.out (below_draw _)⟩) ?_ ?_
      · refine ⟨?_, ?_, ?_, ?_, ?_, ?_, ?_, ?_, ?_, ?_, ?_, ?_, ?_, ?_, trivial⟩
        · intro b0 us wz L hslot hoth hLi hR hcl hdo K hK
          have s0 : b0.tmps.getD 0 undef = .slice (some p0) n cap := hoth 0 (by rfl)
          clear hslot hoth hdo hcl hLi
          refine guard_none (by rfl) ?_
          go_simp
          exact hK _ _ (hR.mark (by decide) (Below.refl _ _) hR.base rfl)
        · intro b0 us wz L hslot hoth hLi hR hcl hdo K hK
          have s1 : b0.tmps.getD 1 undef = .int .i64 (m : Int) := hoth 1 (by rfl)
          clear hslot hoth hdo hcl hLi
          refine guard_none (by rfl) ?_
          go_simp
          exact hK _ _ (hR.mark (by decide) (Below.refl _ _) hR.base rfl)
        · intro b0 us wz L hslot hoth hLi hR hcl hdo K hK
          have s69 : b0.tmps.getD 69 undef = .slice (some p0) n cap := (hslot 0 69 (by rfl)).trans (hR.vals 0 (by decide) (done_at hdo 0 (by rfl)))
          have s70 : b0.tmps.getD 70 undef = .int .i64 (m : Int) := (hslot 1 70 (by rfl)).trans (hR.vals 1 (by decide) (done_at hdo 1 (by rfl)))
          have hmn : m < n := HLT.out.1
          have hcap0 : n ≤ cap := HLT.out.2
          have hq : p0.add m = qa := HQA.out
          clear hslot hoth hdo hcl hLi
          refine guard_none (by rfl) ?_
          go_simp
          exact hK _ _ (hR.mark (by decide) (Below.refl _ _) hR.base rfl)
        · intro b0 us wz L hslot hoth hLi hR hcl hdo K hK
          have s71 : b0.tmps.getD 71 undef = .pointer (some qa) := (hslot 2 71 (by rfl)).trans (hR.vals 2 (by decide) (done_at hdo 2 (by rfl)))
          clear hslot hoth hdo hcl hLi
          refine guard_none (by rfl) ?_
          go_simp
          exact hK _ _ (hR.mark (by decide) (Below.refl _ _) hR.base rfl)
        · intro b0 us wz L hslot hoth hLi hR hcl hdo K hK
          have s72 : b0.tmps.getD 72 undef = .pointer (some qa) := (hslot 3 72 (by rfl)).trans (hR.vals 3 (by decide) (done_at hdo 3 (by rfl)))
          have hc : wz.cell? qa = some (.slice (some qb) 5 qc) := HCQ.out _ hR.base.1.mv.below
          clear hslot hoth hdo hcl hLi
          refine guard_none (by rfl) ?_
          go_simp
          exact hK _ _ (hR.mark (by decide) (Below.refl _ _) hR.base rfl)
        · intro b0 us wz L hslot hoth hLi hR hcl hdo K hK
          have s5 : b0.tmps.getD 5 undef = .pointer (some ⟨w.heap.size, 0, none⟩) := hoth 5 (by rfl)
          clear hslot hoth hdo hcl hLi
          refine guard_none (by rfl) ?_
          go_simp
          exact hK _ _ (hR.mark (by decide) (Below.refl _ _) hR.base rfl)
        · intro b0 us wz L hslot hoth hLi hR hcl hdo K hK
          have s74 : b0.tmps.getD 74 undef = .pointer (some ⟨w.heap.size, 0, none⟩) := (hslot 5 74 (by rfl)).trans (hR.vals 5 (by decide) (done_at hdo 5 (by rfl)))
          have t0 := (hR.base.1.mv.tap).c0
          have t1 := (hR.base.1.mv.tap).c1
          have t2 := (hR.base.1.mv.tap).c2
          have t3 := (hR.base.1.mv.tap).c3
          have t4 := (hR.base.1.mv.tap).c4
          have t5 := (hR.base.1.mv.tap).c5
          clear hslot hoth hdo hcl hLi
          refine guard_none (by rfl) ?_
          go_simp
          exact hK _ _ (hR.mark (by decide) (Below.refl _ _) hR.base rfl)
        · intro b0 us wz L hslot hoth hLi hR hcl hdo K hK
          have s10 : b0.tmps.getD 10 undef = .pointer (some ⟨ga, 0, none⟩) := hoth 10 (by rfl)
          have a0 := (hR.base.2).c0
          have a1 := (hR.base.2).c1
          have a2 := (hR.base.2).c2
          clear hslot hoth hdo hcl hLi
          refine guard_none (by rfl) ?_
          go_simp
          exact hK _ _ (hR.mark (by decide) (Below.refl _ _) hR.base rfl)
        · intro b0 us wz L hslot hoth hLi hR hcl hdo K hK
          have s73 : b0.tmps.getD 73 undef = .slice (some qb) 5 qc := (hslot 4 73 (by rfl)).trans (hR.vals 4 (by decide) (done_at hdo 4 (by rfl)))
          have s75 : b0.tmps.getD 75 undef = .int .i64 (rn : Int) := (hslot 6 75 (by rfl)).trans (hR.vals 6 (by decide) (done_at hdo 6 (by rfl)))
          have s76 : b0.tmps.getD 76 undef = amt A B C := (hslot 7 76 (by rfl)).trans (hR.vals 7 (by decide) (done_at hdo 7 (by rfl)))
          have n9 : L 9 = false := by
            cases h : L 9 with
            | false => rfl
            | true => rw [done_at (hcl 9 _ rfl h) 8 (by rfl)] at hLi; cases hLi
          have n10 : L 10 = false := by
            cases h : L 10 with
            | false => rfl
            | true => rw [done_at (hcl 10 _ rfl h) 9 (by rfl)] at n9; cases n9
          have n11 : L 11 = false := by
            cases h : L 11 with
            | false => rfl
            | true => rw [done_at (hcl 11 _ rfl h) 9 (by rfl)] at n9; cases n9
          have n12 : L 12 = false := by
            cases h : L 12 with
            | false => rfl
            | true => rw [done_at (hcl 12 _ rfl h) 10 (by rfl)] at n10; cases n10
          have n13 : L 13 = false := by
            cases h : L 13 with
            | false => rfl
            | true => rw [done_at (hcl 13 _ rfl h) 11 (by rfl)] at n11; cases n11
          have hL0 : ∀ j, (fun j => !([8, 9, 10, 11, 12, 13].contains j)) j = false → j ≠ 8 → L j = false := fun j hj hne => by
            have hc : j = 8 ∨ j = 9 ∨ j = 10 ∨ j = 11 ∨ j = 12 ∨ j = 13 := by simp at hj; omega
            rcases hc with rfl | rfl | rfl | rfl | rfl | rfl
            · exact absurd rfl hne
            · exact n9
            · exact n10
            · exact n11
            · exact n12
            · exact n13
          clear hslot hoth hdo hcl hLi
          refine guard_none (by rfl) ?_
          go_simp
          refine (CP.out _ _ _ (HUQ.out _ hR.base.1.mv.below)).mono ?_
          rintro e w' ⟨gq, cq, rq, rfl, hoq, hb⟩
          exact hK _ _ (hR.call (by decide) hL0 hb (⟨hR.base.1.on hb, box_on hR.base.2 hb⟩) hoq rfl)
        · intro b0 us wz L hslot hoth hLi hR hcl hdo K hK
          obtain ⟨gq, cq, rq, hoq, huq⟩ := hR.ans 8 (by decide) (done_at hdo 8 (by rfl))
          have s77 : b0.tmps.getD 77 undef = .tuple #[(.slice (some ⟨gq, 0, none⟩) ns.length cq), .bool po] := (hslot 8 77 (by rfl)).trans (huq 8 (by decide) (done_at hdo 8 (by rfl)))
          clear hslot hoth hdo hcl hLi
          refine guard_none (by rfl) ?_
          go_simp
          exact hK _ _ (hR.after (by decide) hoq huq rfl)
        · intro b0 us wz L hslot hoth hLi hR hcl hdo K hK
          obtain ⟨gq, cq, rq, hoq, huq⟩ := hR.ans 9 (by decide) (done_at hdo 9 (by rfl))
          have s68 : b0.tmps.getD 68 undef = .tuple #[(.slice (some ⟨gq, 0, none⟩) ns.length cq), .bool po] := (hslot 9 68 (by rfl)).trans (huq 9 (by decide) (done_at hdo 9 (by rfl)))
          clear hslot hoth hdo hcl hLi
          refine guard_none (by rfl) ?_
          go_simp
          exact hK _ _ (hR.after (by decide) hoq huq rfl)
        · intro b0 us wz L hslot hoth hLi hR hcl hdo K hK
          obtain ⟨gq, cq, rq, hoq, huq⟩ := hR.ans 9 (by decide) (done_at hdo 9 (by rfl))
          have s68 : b0.tmps.getD 68 undef = .tuple #[(.slice (some ⟨gq, 0, none⟩) ns.length cq), .bool po] := (hslot 9 68 (by rfl)).trans (huq 9 (by decide) (done_at hdo 9 (by rfl)))
          clear hslot hoth hdo hcl hLi
          refine guard_none (by rfl) ?_
          go_simp
          exact hK _ _ (hR.after (by decide) hoq huq rfl)
        · intro b0 us wz L hslot hoth hLi hR hcl hdo K hK
          obtain ⟨gq, cq, rq, hoq, huq⟩ := hR.ans 10 (by decide) (done_at hdo 10 (by rfl))
          have s78 : b0.tmps.getD 78 undef = (.slice (some ⟨gq, 0, none⟩) ns.length cq) := (hslot 10 78 (by rfl)).trans (huq 10 (by decide) (done_at hdo 10 (by rfl)))
          clear hslot hoth hdo hcl hLi
          refine guard_none (by rfl) ?_
          go_simp
          exact hK _ _ (hR.after (by decide) hoq huq rfl)
        · intro b0 us wz L hslot hoth hLi hR hcl hdo K hK
          obtain ⟨gq, cq, rq, hoq, huq⟩ := hR.ans 11 (by decide) (done_at hdo 11 (by rfl))
          have s79 : b0.tmps.getD 79 undef = .bool po := (hslot 11 79 (by rfl)).trans (huq 11 (by decide) (done_at hdo 11 (by rfl)))
          clear hslot hoth hdo hcl hLi
          refine guard_none (by rfl) ?_
          go_simp
          exact hK _ _ (hR.after (by decide) hoq huq rfl)
      · intro us wn L hall hR a' ha'
        obtain ⟨gs, cs, rs, hoq, huq⟩ := hR.ans 8 (by decide) (hall 8 (by decide))
        have g12 : us 12 = (.slice (some ⟨gs, 0, none⟩) ns.length cs) := huq 12 (by decide) (hall 12 (by decide))
        have hbW := hR.below
        have hBA := hid_of hR.base
        have HOQ := hid_of hoq
        clear hR hall huq hoq
        simp only [putAll, g12] at ha'
        subst ha'
        go_frame
        have HS6 := hid_of hBA.out.1
        have HA6 := hid_of hBA.out.2
        have HPW : Hid (OwnW g0 c0 fs0 rest0 w.heap.size V5.heap.size wn) := HS5.out.out.on hbW
        clear hBA hbW HS5 HA5
        have c0' := HS6.out.out.cell (i := m) (by have e1 := HFS.out.2; have e2 := HLT.out.1; omega)
        have f0' := HS6.out.out.free m
        have hmn : m < n := HLT.out.1
        have hc0 : n ≤ c0 := by have e1 := HS6.out.out.cap; have e2 := HFS.out.2; omega
        unfold leafV at c0'
        have hput := HPW.out.put (f := ⟨gs, cs, ns, rs⟩) HOQ.out (k := m) (by have e1 := HFS.out.2; have e2 := HLT.out.1; omega)
        have HPUT : Hid (OwnW g0 c0 (fs0.set m ⟨gs, cs, ns, rs⟩) rest0 w.heap.size wn.heap.size (wn.setCell ⟨g0, m, none⟩ (.slice (some ⟨gs, 0, none⟩) ns.length cs))) := hput
        have hlo := HS6.out.out.lo
        have htg := tap_apart HS6.out
        have hgl := HPW.out.hi
        have HS7 : Hid (St w p0 n cap tss (rn : Int) (pn : Int) q h k t g0 c0 (fs0.set m ⟨gs, cs, ns, rs⟩) rest0 (wn.setCell ⟨g0, m, none⟩ (.slice (some ⟨gs, 0, none⟩) ns.length cs))) := by
          refine ⟨⟨HS6.out.mv.below.setCell (p := ⟨g0, m, none⟩) hlo _, ⟨setCell_keep HS6.out.mv.tap.at' htg⟩, ?_⟩, HPUT.out.more⟩
          exact HX0.out _ (HS6.out.mv.below.setCell (p := ⟨g0, m, none⟩) hlo _)
        have HA7 : Hid (Box3 (wn.setCell ⟨g0, m, none⟩ (.slice (some ⟨gs, 0, none⟩) ns.length cs)) ga 37 A B C) := ⟨setCell_keep HA6.out.at' (box_apart HA6.out HS6.out.out)⟩
        clear HS6 HA6 HPW HOQ hput HPUT hlo htg hgl
        go_wp2_with fail
        obtain ⟨V7, hV⟩ : ∃ V, V = wn.setCell ⟨g0, m, none⟩ (.slice (some ⟨gs, 0, none⟩) ns.length cs) := ⟨_, rfl⟩
        rw [← hV] at HS7 HA7 ⊢
        clear hV c0' f0' hmn hc0
        have HFL : Hid ((fs0.set m ⟨gs, cs, ns, rs⟩).length = n ∧ leafTs (fs0.set m ⟨gs, cs, ns, rs⟩) = tss.set m ns) := ⟨by rw [List.length_set]; exact HFS.out.2, by rw [leafTs_set, HFS.out.1]⟩
        obtain ⟨lf, hlf⟩ : ∃ x, x = leafAt (fs0.set m ⟨gs, cs, ns, rs⟩) pn := ⟨_, rfl⟩
        have hlt : lf.ts = t1 := by rw [hlf, ← leafTs_at, HFL.out.2]; exact HT1.out.1
        have hlv : leafV lf = .slice (some ⟨lf.g, 0, none⟩) 5 lf.c := by unfold leafV; rw [hlt, HT1.out.2]
        have HLC : Hid (∀ w', St w p0 n cap tss (rn : Int) (pn : Int) q h k t g0 c0 (fs0.set m ⟨gs, cs, ns, rs⟩) rest0 w' → w'.cell? ⟨g0, pn, none⟩ = some (.slice (some ⟨lf.g, 0, none⟩) 5 lf.c)) := fun w' hs => by
          have e := hs.out.cell (i := pn) (by have e1 := HFL.out.1; have e2 := HPM.out.1; omega)
          rw [← hlf, hlv] at e
          exact e
        have HLF : Hid (∀ w', Below V7.heap.size V7 w' → IsTree w' (.slice (some ⟨lf.g, 0, none⟩) 5 lf.c) t1) := fun w' hb => by
          have e := (HS7.out.out.own pn (by have e1 := HFL.out.1; have e2 := HPM.out.1; omega)).tree
          rw [← hlf, hlt, HT1.out.2] at e
          exact e.on hb
        clear hlf hlt hlv
        generalize lf.g = gl at HLC HLF
        generalize lf.c = cl at HLC HLF
        have HC0 : Hid (n ≤ c0) := by have e1 := HS7.out.out.cap; have e2 := HFL.out.1; show n ≤ c0; omega
        refine wp_region_whole (by kernel_rfl) (by kernel_rfl) (by kernel_rfl) (by kernel_rfl) (CallQ V7 (fun wz => St w p0 n cap tss (rn : Int) (pn : Int) q h k t g0 c0 (fs0.set m ⟨gs, cs, ns, rs⟩) rest0 wz ∧ Box3 wz ga 37 A B C) bs (fun j => !([9, 10, 11, 12, 13, 14].contains j)) [.slice (some ⟨g0, 0, none⟩) n c0, .pointer (some ⟨w.heap.size, 1, none⟩), .int .i64 (pn : Int), .pointer (some ⟨g0, pn, none⟩), .pointer (some ⟨g0, pn, none⟩), .slice (some ⟨gl, 0, none⟩) 5 cl, .pointer (some ⟨w.heap.size, 2, none⟩), .int .i64 q, amt A B C, undef, undef, undef, undef, undef, undef] (fun s => [undef, undef, undef, undef, undef, undef, undef, undef, undef, .tuple #[s, .bool bo], .tuple #[s, .bool bo], s, .bool bo, s, .bool bo])) (fun us => callQ_start bs _ _ _ us ⟨HS7.out.on (below_draw _), box_on HA7.out (below_draw _)⟩) ?_ ?_
        · refine ⟨?_, ?_, ?_, ?_, ?_, ?_, ?_, ?_, ?_, ?_, ?_, ?_, ?_, ?_, ?_, trivial⟩
          · intro b0 us wz L hslot hoth hLi hR hcl hdo K hK
            have s8 : b0.tmps.getD 8 undef = .slice (some ⟨g0, 0, none⟩) n c0 := hoth 8 (by rfl)
            clear hslot hoth hdo hcl hLi
            refine guard_none (by rfl) ?_
            go_simp
            exact hK _ _ (hR.mark (by decide) (Below.refl _ _) hR.base rfl)
          · intro b0 us wz L hslot hoth hLi hR hcl hdo K hK
            have s5 : b0.tmps.getD 5 undef = .pointer (some ⟨w.heap.size, 0, none⟩) := hoth 5 (by rfl)
            clear hslot hoth hdo hcl hLi
            refine guard_none (by rfl) ?_
            go_simp
            exact hK _ _ (hR.mark (by decide) (Below.refl _ _) hR.base rfl)
          · intro b0 us wz L hslot hoth hLi hR hcl hdo K hK
            have s87 : b0.tmps.getD 87 undef = .pointer (some ⟨w.heap.size, 1, none⟩) := (hslot 1 87 (by rfl)).trans (hR.vals 1 (by decide) (done_at hdo 1 (by rfl)))
            have t0 := (hR.base.1.mv.tap).c0
            have t1 := (hR.base.1.mv.tap).c1
            have t2 := (hR.base.1.mv.tap).c2
            have t3 := (hR.base.1.mv.tap).c3
            have t4 := (hR.base.1.mv.tap).c4
            have t5 := (hR.base.1.mv.tap).c5
            clear hslot hoth hdo hcl hLi
            refine guard_none (by rfl) ?_
            go_simp
            exact hK _ _ (hR.mark (by decide) (Below.refl _ _) hR.base rfl)
          · intro b0 us wz L hslot hoth hLi hR hcl hdo K hK
            have s86 : b0.tmps.getD 86 undef = .slice (some ⟨g0, 0, none⟩) n c0 := (hslot 0 86 (by rfl)).trans (hR.vals 0 (by decide) (done_at hdo 0 (by rfl)))
            have s88 : b0.tmps.getD 88 undef = .int .i64 (pn : Int) := (hslot 2 88 (by rfl)).trans (hR.vals 2 (by decide) (done_at hdo 2 (by rfl)))
            have hpn : pn < n := HPM.out.1
            have hc0 : n ≤ c0 := HC0.out
            clear hslot hoth hdo hcl hLi
            refine guard_none (by rfl) ?_
            go_simp
            exact hK _ _ (hR.mark (by decide) (Below.refl _ _) hR.base rfl)
          · intro b0 us wz L hslot hoth hLi hR hcl hdo K hK
            have s89 : b0.tmps.getD 89 undef = .pointer (some ⟨g0, pn, none⟩) := (hslot 3 89 (by rfl)).trans (hR.vals 3 (by decide) (done_at hdo 3 (by rfl)))
            clear hslot hoth hdo hcl hLi
            refine guard_none (by rfl) ?_
            go_simp
            exact hK _ _ (hR.mark (by decide) (Below.refl _ _) hR.base rfl)
          · intro b0 us wz L hslot hoth hLi hR hcl hdo K hK
            have s90 : b0.tmps.getD 90 undef = .pointer (some ⟨g0, pn, none⟩) := (hslot 4 90 (by rfl)).trans (hR.vals 4 (by decide) (done_at hdo 4 (by rfl)))
            have hc : wz.cell? ⟨g0, pn, none⟩ = some (.slice (some ⟨gl, 0, none⟩) 5 cl) := HLC.out _ hR.base.1
            clear hslot hoth hdo hcl hLi
            refine guard_none (by rfl) ?_
            go_simp
            exact hK _ _ (hR.mark (by decide) (Below.refl _ _) hR.base rfl)
          · intro b0 us wz L hslot hoth hLi hR hcl hdo K hK
            have s5 : b0.tmps.getD 5 undef = .pointer (some ⟨w.heap.size, 0, none⟩) := hoth 5 (by rfl)
            clear hslot hoth hdo hcl hLi
            refine guard_none (by rfl) ?_
            go_simp
            exact hK _ _ (hR.mark (by decide) (Below.refl _ _) hR.base rfl)
          · intro b0 us wz L hslot hoth hLi hR hcl hdo K hK
            have s92 : b0.tmps.getD 92 undef = .pointer (some ⟨w.heap.size, 2, none⟩) := (hslot 6 92 (by rfl)).trans (hR.vals 6 (by decide) (done_at hdo 6 (by rfl)))
            have t0 := (hR.base.1.mv.tap).c0
            have t1 := (hR.base.1.mv.tap).c1
            have t2 := (hR.base.1.mv.tap).c2
            have t3 := (hR.base.1.mv.tap).c3
            have t4 := (hR.base.1.mv.tap).c4
            have t5 := (hR.base.1.mv.tap).c5
            clear hslot hoth hdo hcl hLi
            refine guard_none (by rfl) ?_
            go_simp
            exact hK _ _ (hR.mark (by decide) (Below.refl _ _) hR.base rfl)
          · intro b0 us wz L hslot hoth hLi hR hcl hdo K hK
            have s10 : b0.tmps.getD 10 undef = .pointer (some ⟨ga, 0, none⟩) := hoth 10 (by rfl)
            have a0 := (hR.base.2).c0
            have a1 := (hR.base.2).c1
            have a2 := (hR.base.2).c2
            clear hslot hoth hdo hcl hLi
            refine guard_none (by rfl) ?_
            go_simp
            exact hK _ _ (hR.mark (by decide) (Below.refl _ _) hR.base rfl)
          · intro b0 us wz L hslot hoth hLi hR hcl hdo K hK
            have s91 : b0.tmps.getD 91 undef = .slice (some ⟨gl, 0, none⟩) 5 cl := (hslot 5 91 (by rfl)).trans (hR.vals 5 (by decide) (done_at hdo 5 (by rfl)))
            have s93 : b0.tmps.getD 93 undef = .int .i64 q := (hslot 7 93 (by rfl)).trans (hR.vals 7 (by decide) (done_at hdo 7 (by rfl)))
            have s94 : b0.tmps.getD 94 undef = amt A B C := (hslot 8 94 (by rfl)).trans (hR.vals 8 (by decide) (done_at hdo 8 (by rfl)))
            have n10 : L 10 = false := by
              cases h : L 10 with
              | false => rfl
              | true => rw [done_at (hcl 10 _ rfl h) 9 (by rfl)] at hLi; cases hLi
            have n11 : L 11 = false := by
              cases h : L 11 with
              | false => rfl
              | true => rw [done_at (hcl 11 _ rfl h) 10 (by rfl)] at n10; cases n10
            have n12 : L 12 = false := by
              cases h : L 12 with
              | false => rfl
              | true => rw [done_at (hcl 12 _ rfl h) 10 (by rfl)] at n10; cases n10
            have n13 : L 13 = false := by
              cases h : L 13 with
              | false => rfl
              | true => rw [done_at (hcl 13 _ rfl h) 11 (by rfl)] at n11; cases n11
            have n14 : L 14 = false := by
              cases h : L 14 with
              | false => rfl
              | true => rw [done_at (hcl 14 _ rfl h) 12 (by rfl)] at n12; cases n12
            have hL0 : ∀ j, (fun j => !([9, 10, 11, 12, 13, 14].contains j)) j = false → j ≠ 9 → L j = false := fun j hj hne => by
              have hc : j = 9 ∨ j = 10 ∨ j = 11 ∨ j = 12 ∨ j = 13 ∨ j = 14 := by simp at hj; omega
              rcases hc with rfl | rfl | rfl | rfl | rfl | rfl
              · exact absurd rfl hne
              · exact n10
              · exact n11
              · exact n12
              · exact n13
              · exact n14
            clear hslot hoth hdo hcl hLi
            refine guard_none (by rfl) ?_
            go_simp
            refine (CB.out _ _ _ (HLF.out _ hR.below)).mono ?_
            rintro e w' ⟨gq, cq, rq, rfl, hoq, hb⟩
            exact hK _ _ (hR.call (by decide) hL0 hb (⟨hR.base.1.on hb, box_on hR.base.2 hb⟩) hoq rfl)
          · intro b0 us wz L hslot hoth hLi hR hcl hdo K hK
            obtain ⟨gq, cq, rq, hoq, huq⟩ := hR.ans 9 (by decide) (done_at hdo 9 (by rfl))
            have s95 : b0.tmps.getD 95 undef = .tuple #[(.slice (some ⟨gq, 0, none⟩) bs.length cq), .bool bo] := (hslot 9 95 (by rfl)).trans (huq 9 (by decide) (done_at hdo 9 (by rfl)))
            clear hslot hoth hdo hcl hLi
            refine guard_none (by rfl) ?_
            go_simp
            exact hK _ _ (hR.after (by decide) hoq huq rfl)
          · intro b0 us wz L hslot hoth hLi hR hcl hdo K hK
            obtain ⟨gq, cq, rq, hoq, huq⟩ := hR.ans 10 (by decide) (done_at hdo 10 (by rfl))
            have s85 : b0.tmps.getD 85 undef = .tuple #[(.slice (some ⟨gq, 0, none⟩) bs.length cq), .bool bo] := (hslot 10 85 (by rfl)).trans (huq 10 (by decide) (done_at hdo 10 (by rfl)))
            clear hslot hoth hdo hcl hLi
            refine guard_none (by rfl) ?_
            go_simp
            exact hK _ _ (hR.after (by decide) hoq huq rfl)
          · intro b0 us wz L hslot hoth hLi hR hcl hdo K hK
            obtain ⟨gq, cq, rq, hoq, huq⟩ := hR.ans 10 (by decide) (done_at hdo 10 (by rfl))
            have s85 : b0.tmps.getD 85 undef = .tuple #[(.slice (some ⟨gq, 0, none⟩) bs.length cq), .bool bo] := (hslot 10 85 (by rfl)).trans (huq 10 (by decide) (done_at hdo 10 (by rfl)))
            clear hslot hoth hdo hcl hLi
            refine guard_none (by rfl) ?_
            go_simp
            exact hK _ _ (hR.after (by decide) hoq huq rfl)
          · intro b0 us wz L hslot hoth hLi hR hcl hdo K hK
            obtain ⟨gq, cq, rq, hoq, huq⟩ := hR.ans 11 (by decide) (done_at hdo 11 (by rfl))
            have s96 : b0.tmps.getD 96 undef = (.slice (some ⟨gq, 0, none⟩) bs.length cq) := (hslot 11 96 (by rfl)).trans (huq 11 (by decide) (done_at hdo 11 (by rfl)))
            clear hslot hoth hdo hcl hLi
            refine guard_none (by rfl) ?_
            go_simp
            exact hK _ _ (hR.after (by decide) hoq huq rfl)
          · intro b0 us wz L hslot hoth hLi hR hcl hdo K hK
            obtain ⟨gq, cq, rq, hoq, huq⟩ := hR.ans 12 (by decide) (done_at hdo 12 (by rfl))
            have s97 : b0.tmps.getD 97 undef = .bool bo := (hslot 12 97 (by rfl)).trans (huq 12 (by decide) (done_at hdo 12 (by rfl)))
            clear hslot hoth hdo hcl hLi
            refine guard_none (by rfl) ?_
            go_simp
            exact hK _ _ (hR.after (by decide) hoq huq rfl)
        · intro us wm L hall hR a' ha'
          obtain ⟨gu, cu, ru, hoq, huq⟩ := hR.ans 9 (by decide) (hall 9 (by decide))
          have g13 : us 13 = (.slice (some ⟨gu, 0, none⟩) bs.length cu) := huq 13 (by decide) (hall 13 (by decide))
          have g14 : us 14 = .bool bo := huq 14 (by decide) (hall 14 (by decide))
          have hbW := hR.below
          have hBA := hid_of hR.base
          have HOQ := hid_of hoq
          clear hR hall huq hoq
          simp only [putAll, g13, g14] at ha'
          subst ha'
          go_frame
          have HSM := hid_of hBA.out.1
          have HPW : Hid (OwnW g0 c0 (fs0.set m ⟨gs, cs, ns, rs⟩) rest0 w.heap.size V7.heap.size wm) := HS7.out.out.on hbW
          clear HA7 hBA hbW HLC HLF HS7
          cases bo with
          | false =>
            have HRS := hid_of (HF2.out rfl)
            clear HOQ HPW
            go_wp2_with fail
            refine (CC.out _ HSM.out.mv.wood).mono ?_
            rintro e w9 ⟨g9, c9, fs9, rest9, rfl, hfs, ho, hb⟩
            have HS9 := hid_of (HSM.out.on hb)
            have HO9 : Hid (leafTs fs9 = tss ∧ OwnW g9 c9 fs9 rest9 w.heap.size w9.heap.size w9) := ⟨hfs, ho.wide HSM.out.mv.below.size (Nat.le_refl _)⟩
            clear hfs ho hb HSM
            go_wp2
            go_returns
            rw [HRS.out.1, HRS.out.2]
            exact ⟨g9, c9, fs9, rest9, by rw [← HNL.out]; rfl, HO9.out.1, HO9.out.2, HS9.out.mv.below⟩
          | true =>
            have HRS := hid_of (HF1.out rfl)
            have c0' := HSM.out.out.cell (i := pn) (by have e1 := HFL.out.1; have e2 := HPM.out.1; omega)
            have f0' := HSM.out.out.free pn
            have t1' := HSM.out.mv.tap.c1
            have hpn : pn < n := HPM.out.1
            have hc0 : n ≤ c0 := HC0.out
            unfold leafV at c0'
            have hput := HPW.out.put (f := ⟨gu, cu, bs, ru⟩) HOQ.out (k := pn) (by have e1 := HFL.out.1; have e2 := HPM.out.1; omega)
            have HPUT : Hid (OwnW g0 c0 ((fs0.set m ⟨gs, cs, ns, rs⟩).set pn ⟨gu, cu, bs, ru⟩) rest0 w.heap.size wm.heap.size (wm.setCell ⟨g0, pn, none⟩ (.slice (some ⟨gu, 0, none⟩) bs.length cu))) := hput
            have HBL : Hid (Below w.heap.size w (wm.setCell ⟨g0, pn, none⟩ (.slice (some ⟨gu, 0, none⟩) bs.length cu))) := HSM.out.mv.below.setCell (p := ⟨g0, pn, none⟩) HSM.out.out.lo _
            clear HSM HOQ HPW hput
            go_wp2
            go_returns
            rw [HRS.out.1, HRS.out.2]
            refine ⟨g0, c0, _, rest0, by rw [List.length_set, List.length_set, ← HNL.out]; rfl, ?_, HPUT.out.more, HBL.out⟩
            rw [leafTs_set, HFL.out.2]
end Go.Proofs.YtfcenombphodbaaDoor
namespace Go.Proofs.YtfcenombphodbaaDoor
open Go.RowKit
set_option linter.unusedVariables false
set_option maxRecDepth 100000

theorem wraps_pred (n : Nat) (h : n ≤ 1048576) : IntKind.i64.wrap ((n : Int) - 1) = (n : Int) - 1 := by
  simp [IntKind.wrap, IntKind.bits, IntKind.signed]
  split <;> omega
set_option maxRecDepth 100000 in
set_option maxHeartbeats 16000000 in
theorem specMove_no (p0 : Addr) (n cap : Nat) (tss : List (List Re)) (P r p q h k t : Int) (w : World) (hx : IsWood w (.slice (some p0) n cap) tss) (hn : n = tss.length) (hcap : n ≤ cap) (hn6 : n ≤ 1048576) (hTL : ∀ i, (treeAt tss i).length ≤ 1048576) (hmay : mayB tss P r p q h k t = false) :
    Calls Tryd.prog 7 #[.slice (some p0) n cap, .int .i64 P, tapV r p q h k t] w fun e w' => MoveAns (moveOf tss P r p q h k t) (moveM tss P r p q h k t) w e w' := by
  rw [moveOf_no (moveB_no hmay), moveM_no (moveB_no hmay)]
  have HTL : Hid (∀ i, (treeAt tss i).length ≤ 1048576) := hTL
  have HNL : Hid (n = tss.length) := hn
  have CC : Hid (∀ w', IsWood w' (.slice (some p0) n cap) tss → Calls Tryd.prog 23 #[.slice (some p0) n cap] w' fun e w'' => ∃ g c fs rest, e = .returned (.slice (some ⟨g, 0, none⟩) n c) ∧ leafTs fs = tss ∧ OwnW g c fs rest w'.heap.size w''.heap.size w'' ∧ Below w'.heap.size w' w'') := fun w' hb => by
    rw [HNL.out] at hb ⊢
    exact specCopies_any p0 cap tss w' hb (by have := HNL.out; omega) HTL.out
  have HS00 : Hid (Mv w p0 n cap tss r p q h k t (w.alloc (boxT r p q h k t))) := mv_start _ _ _ _ _ _ hx
  have HX0 : Hid (∀ w', Below w.heap.size w w' → IsWood w' (.slice (some p0) n cap) tss) := fun w' hb => hx.on hb
  obtain ⟨o1, ho1⟩ : ∃ o, o = woodOk tss := ⟨_, rfl⟩
  obtain ⟨o2, ho2⟩ : ∃ o, o = tapOk r p q h k t := ⟨_, rfl⟩
  obtain ⟨o3, ho3⟩ : ∃ o, o = inB P 0 ((n : Int) - 1) := ⟨_, rfl⟩
  have CK : Hid (∀ w', IsWood w' (.slice (some p0) n cap) tss → Calls Tryd.prog 24 #[.slice (some p0) n cap] w' fun e w'' => e = .returned (.bool o1) ∧ Below w'.heap.size w' w'') := fun w' hb => by rw [ho1]; exact specAll_any _ tss w' hb.trees (by omega) HTL.out
  have CT2 : Hid (∀ w', Calls Tryd.prog 25 #[tapV r p q h k t] w' fun e w'' => e = .returned (.bool o2) ∧ Below w'.heap.size w' w'') := fun w' => by rw [ho2]; exact specTapOk_any r p q h k t w'
  have CI : Hid (∀ w', Calls Tryd.prog 26 #[.int .i64 P, .int .i64 0, .int .i64 ((n : Int) - 1)] w' fun e w'' => e = .returned (.bool o3) ∧ w' = w'') := fun w' => by rw [ho3]; exact l1In_b P 0 ((n : Int) - 1) w'
  obtain ⟨m, m5, qc, qa, qb, HDD⟩ : ∃ (m m5 qc : Nat) (qa qb : Addr), Hid ((o1 = false ∧ Hid True) ∨ (o1 = true ∧ o2 = false ∧ Hid True) ∨ (o1 = true ∧ o2 = true ∧ o3 = false ∧ Hid True) ∨ (o1 = true ∧ o2 = true ∧ o3 = true ∧ Hid ((n : Int) ≤ p)) ∨ (o1 = true ∧ o2 = true ∧ o3 = true ∧ P = (m : Int) ∧ Hid (m < n ∧ p < (n : Int) ∧ p0.add m = qa ∧ (∀ w', Below w.heap.size w w' → w'.cell? qa = some (.slice (some qb) m5 qc) ∧ True) ∧ ∀ w', Below w.heap.size w w' → Calls Tryd.prog 27 #[.slice (some qb) m5 qc, .int .i64 r] w' fun e w'' => e = .returned (.bool false) ∧ Below w'.heap.size w' w''))) := by
    cases h1 : o1 with
    | false => exact ⟨0, 0, 0, p0, p0, .inl ⟨rfl, trivial⟩⟩
    | true =>
      cases h2 : o2 with
      | false => exact ⟨0, 0, 0, p0, p0, .inr (.inl ⟨rfl, rfl, trivial⟩)⟩
      | true =>
        cases h3 : o3 with
        | false => exact ⟨0, 0, 0, p0, p0, .inr (.inr (.inl ⟨rfl, rfl, rfl, trivial⟩))⟩
        | true =>
          by_cases hp : (n : Int) ≤ p
          · exact ⟨0, 0, 0, p0, p0, .inr (.inr (.inr (.inl ⟨rfl, rfl, rfl, hp⟩)))⟩
          · rw [h3] at ho3
            have hP := inB_true ho3.symm
            obtain ⟨m, rfl⟩ : ∃ m : Nat, P = (m : Int) := ⟨P.toNat, by omega⟩
            have hm : m < tss.length := by omega
            obtain ⟨qa, qb, qc, hq, hc, hu⟩ := hx.at hm
            have hw : woodOk tss = true := by rw [← ho1, h1]
            have hl : liveIn (treeAt tss m) r = false := by
              have e := hmay
              unfold mayB at e
              rw [hw, ← ho2, h2, decide_eq_true (by omega : (0 : Int) ≤ m), decide_eq_true (by omega : (m : Int) < tss.length), decide_eq_true (by omega : p < tss.length)] at e
              simpa using e
            refine ⟨m, (treeAt tss m).length, qc, qa, qb, .inr (.inr (.inr (.inr ⟨rfl, rfl, rfl, rfl, by omega, by omega, hq, fun w' hb => ⟨(hb.cell (World.block_lt_of_cell? w _ hc)).trans hc, trivial⟩, fun w' hb => ?_⟩)))⟩
            have e := specLive_any _ (treeAt tss m) r w' (hu.on hb) (hTL m)
            rw [hl] at e
            exact e
  have HN6 : Hid (n ≤ 1048576 ∧ n ≤ cap) := ⟨hn6, hcap⟩
  clear hx hn hcap hTL hmay ho1 ho2 ho3
  go_enter Tryd.func7, Tryd.ntmps7
  go_wp2_with fail
  refine (CC.out _ HS00.out.wood).mono ?_
  rintro e w1 ⟨g0, c0, fs0, rest0, rfl, hfs, ho, hb⟩
  have HS : Hid (St w p0 n cap tss r p q h k t g0 c0 fs0 rest0 w1) := ⟨HS00.out.on hb, ho.wide (by simp) (Nat.le_refl _)⟩
  have HFS : Hid (leafTs fs0 = tss ∧ fs0.length = n) := ⟨hfs, by rw [← leafTs_length, hfs]; exact HNL.out.symm⟩
  clear HS00 hb ho hfs
  go_wp2_with fail
  obtain ⟨l, HL⟩ : ∃ l, Hid ((l = [.slice (some p0) n cap, .bool false, .bool true, .bool true, undef, undef, undef, .bool true, .bool true, undef, undef, undef, undef, undef, undef, .bool true, .bool true, undef, undef, undef, undef, undef, .bool true, .bool true, undef, undef, undef, undef, undef, undef, undef, undef, undef, .bool true] ∧ o1 = false ∧ Hid True) ∨ (l = [.slice (some p0) n cap, .bool true, .bool false, .bool false, tapV r p q h k t, .bool false, .bool true, .bool true, .bool true, undef, undef, undef, undef, undef, undef, .bool true, .bool true, undef, undef, undef, undef, undef, .bool true, .bool true, undef, undef, undef, undef, undef, undef, undef, undef, undef, .bool true] ∧ o1 = true ∧ o2 = false ∧ Hid True) ∨ (l = [.slice (some p0) n cap, .bool true, .bool false, .bool false, tapV r p q h k t, .bool true, .bool false, .bool false, .bool false, .int .i64 P, .slice (some p0) n cap, .int .i64 (n : Int), .int .i64 ((n : Int) - 1), .bool false, .bool true, .bool true, .bool true, undef, undef, undef, undef, undef, .bool true, .bool true, undef, undef, undef, undef, undef, undef, undef, undef, undef, .bool true] ∧ o1 = true ∧ o2 = true ∧ o3 = false ∧ Hid True) ∨ (l = [.slice (some p0) n cap, .bool true, .bool false, .bool false, tapV r p q h k t, .bool true, .bool false, .bool false, .bool false, .int .i64 P, .slice (some p0) n cap, .int .i64 (n : Int), .int .i64 ((n : Int) - 1), .bool true, .bool false, .bool false, .bool false, .pointer (some ⟨w.heap.size, 1, none⟩), .int .i64 p, .slice (some p0) n cap, .int .i64 (n : Int), .bool true, .bool true, .bool true, undef, undef, undef, undef, undef, undef, undef, undef, undef, .bool true] ∧ o1 = true ∧ o2 = true ∧ o3 = true ∧ Hid ((n : Int) ≤ p)) ∨ (l = [.slice (some p0) n cap, .bool true, .bool false, .bool false, tapV r p q h k t, .bool true, .bool false, .bool false, .bool false, .int .i64 (m : Int), .slice (some p0) n cap, .int .i64 (n : Int), .int .i64 ((n : Int) - 1), .bool true, .bool false, .bool false, .bool false, .pointer (some ⟨w.heap.size, 1, none⟩), .int .i64 p, .slice (some p0) n cap, .int .i64 (n : Int), .bool false, .bool false, .bool false, .slice (some p0) n cap, .int .i64 (m : Int), .pointer (some qa), .pointer (some qa), .slice (some qb) m5 qc, .pointer (some ⟨w.heap.size, 0, none⟩), .int .i64 r, .bool false, .bool true, .bool true] ∧ o1 = true ∧ o2 = true ∧ o3 = true ∧ P = (m : Int) ∧ Hid (m < n ∧ p < (n : Int) ∧ p0.add m = qa ∧ (∀ w', Below w.heap.size w w' → w'.cell? qa = some (.slice (some qb) m5 qc) ∧ True) ∧ ∀ w', Below w.heap.size w w' → Calls Tryd.prog 27 #[.slice (some qb) m5 qc, .int .i64 r] w' fun e w'' => e = .returned (.bool false) ∧ Below w'.heap.size w' w''))) := by
    rcases HDD.out with h | h | h | h | h
    · exact ⟨_, .inl ⟨rfl, h⟩⟩
    · exact ⟨_, .inr (.inl ⟨rfl, h⟩)⟩
    · exact ⟨_, .inr (.inr (.inl ⟨rfl, h⟩))⟩
    · exact ⟨_, .inr (.inr (.inr (.inl ⟨rfl, h⟩)))⟩
    · exact ⟨_, .inr (.inr (.inr (.inr ⟨rfl, h⟩)))⟩
  refine wp_region_whole (by kernel_rfl) (by kernel_rfl) (by kernel_rfl) (by kernel_rfl) (Flat (fun wz => St w p0 n cap tss r p q h k t g0 c0 fs0 rest0 wz) (gVals l)) (flat_start (HS.out.on (below_draw _))) ?_ ?_
  · refine ⟨?_, ?_, ?_, ?_, ?_, ?_, ?_, ?_, ?_, ?_, ?_, ?_, ?_, ?_, ?_, ?_, ?_, ?_, ?_, ?_, ?_, ?_, ?_, ?_, ?_, ?_, ?_, ?_, ?_, ?_, ?_, ?_, ?_, ?_, trivial⟩
    · intro b0 us wz L hslot hoth hLi hR hcl hdo K hK
      rcases HL.out with ⟨rfl, rfl, hf⟩ | ⟨rfl, rfl, rfl, hf⟩ | ⟨rfl, rfl, rfl, rfl, hf⟩ | ⟨rfl, rfl, rfl, rfl, hf⟩ | ⟨rfl, rfl, rfl, rfl, rfl, hf⟩
      · have s0 : b0.tmps.getD 0 undef = .slice (some p0) n cap := hoth 0 (by rfl)
        clear hslot hoth hdo hcl hLi
        refine guard_none (by rfl) ?_
        go_simp
        exact hK _ _ (flat_mark (hR.1) (fun _ _ h => h) hR.2 rfl)
      · have s0 : b0.tmps.getD 0 undef = .slice (some p0) n cap := hoth 0 (by rfl)
        clear hslot hoth hdo hcl hLi
        refine guard_none (by rfl) ?_
        go_simp
        exact hK _ _ (flat_mark (hR.1) (fun _ _ h => h) hR.2 rfl)
      · have s0 : b0.tmps.getD 0 undef = .slice (some p0) n cap := hoth 0 (by rfl)
        clear hslot hoth hdo hcl hLi
        refine guard_none (by rfl) ?_
        go_simp
        exact hK _ _ (flat_mark (hR.1) (fun _ _ h => h) hR.2 rfl)
      · have s0 : b0.tmps.getD 0 undef = .slice (some p0) n cap := hoth 0 (by rfl)
        clear hslot hoth hdo hcl hLi
        refine guard_none (by rfl) ?_
        go_simp
        exact hK _ _ (flat_mark (hR.1) (fun _ _ h => h) hR.2 rfl)
      · have s0 : b0.tmps.getD 0 undef = .slice (some p0) n cap := hoth 0 (by rfl)
        clear hslot hoth hdo hcl hLi
        refine guard_none (by rfl) ?_
        go_simp
        exact hK _ _ (flat_mark (hR.1) (fun _ _ h => h) hR.2 rfl)
    · intro b0 us wz L hslot hoth hLi hR hcl hdo K hK
      rcases HL.out with ⟨rfl, rfl, hf⟩ | ⟨rfl, rfl, rfl, hf⟩ | ⟨rfl, rfl, rfl, rfl, hf⟩ | ⟨rfl, rfl, rfl, rfl, hf⟩ | ⟨rfl, rfl, rfl, rfl, rfl, hf⟩
      · have s17 : b0.tmps.getD 17 undef = .slice (some p0) n cap := (hslot 0 17 (by rfl)).trans (hR.2 0 (done_at hdo 0 (by rfl)))
        clear hslot hoth hdo hcl hLi
        refine guard_none (by rfl) ?_
        go_simp
        refine (CK.out wz hR.1.mv.wood).mono ?_
        rintro e w' ⟨rfl, hb⟩
        exact hK _ _ (flat_mark (hR.1.on hb) (fun _ _ h => h) hR.2 rfl)
      · have s17 : b0.tmps.getD 17 undef = .slice (some p0) n cap := (hslot 0 17 (by rfl)).trans (hR.2 0 (done_at hdo 0 (by rfl)))
        clear hslot hoth hdo hcl hLi
        refine guard_none (by rfl) ?_
        go_simp
        refine (CK.out wz hR.1.mv.wood).mono ?_
        rintro e w' ⟨rfl, hb⟩
        exact hK _ _ (flat_mark (hR.1.on hb) (fun _ _ h => h) hR.2 rfl)
      · have s17 : b0.tmps.getD 17 undef = .slice (some p0) n cap := (hslot 0 17 (by rfl)).trans (hR.2 0 (done_at hdo 0 (by rfl)))
        clear hslot hoth hdo hcl hLi
        refine guard_none (by rfl) ?_
        go_simp
        refine (CK.out wz hR.1.mv.wood).mono ?_
        rintro e w' ⟨rfl, hb⟩
        exact hK _ _ (flat_mark (hR.1.on hb) (fun _ _ h => h) hR.2 rfl)
      · have s17 : b0.tmps.getD 17 undef = .slice (some p0) n cap := (hslot 0 17 (by rfl)).trans (hR.2 0 (done_at hdo 0 (by rfl)))
        clear hslot hoth hdo hcl hLi
        refine guard_none (by rfl) ?_
        go_simp
        refine (CK.out wz hR.1.mv.wood).mono ?_
        rintro e w' ⟨rfl, hb⟩
        exact hK _ _ (flat_mark (hR.1.on hb) (fun _ _ h => h) hR.2 rfl)
      · have s17 : b0.tmps.getD 17 undef = .slice (some p0) n cap := (hslot 0 17 (by rfl)).trans (hR.2 0 (done_at hdo 0 (by rfl)))
        clear hslot hoth hdo hcl hLi
        refine guard_none (by rfl) ?_
        go_simp
        refine (CK.out wz hR.1.mv.wood).mono ?_
        rintro e w' ⟨rfl, hb⟩
        exact hK _ _ (flat_mark (hR.1.on hb) (fun _ _ h => h) hR.2 rfl)
    · intro b0 us wz L hslot hoth hLi hR hcl hdo K hK
      rcases HL.out with ⟨rfl, rfl, hf⟩ | ⟨rfl, rfl, rfl, hf⟩ | ⟨rfl, rfl, rfl, rfl, hf⟩ | ⟨rfl, rfl, rfl, rfl, hf⟩ | ⟨rfl, rfl, rfl, rfl, rfl, hf⟩
      · have s18 : b0.tmps.getD 18 undef = .bool false := (hslot 1 18 (by rfl)).trans (hR.2 1 (done_at hdo 1 (by rfl)))
        clear hslot hoth hdo hcl hLi
        refine guard_none (by rfl) ?_
        go_simp
        exact hK _ _ (flat_mark (hR.1) (fun _ _ h => h) hR.2 rfl)
      · have s18 : b0.tmps.getD 18 undef = .bool true := (hslot 1 18 (by rfl)).trans (hR.2 1 (done_at hdo 1 (by rfl)))
        clear hslot hoth hdo hcl hLi
        refine guard_none (by rfl) ?_
        go_simp
        exact hK _ _ (flat_mark (hR.1) (fun _ _ h => h) hR.2 rfl)
      · have s18 : b0.tmps.getD 18 undef = .bool true := (hslot 1 18 (by rfl)).trans (hR.2 1 (done_at hdo 1 (by rfl)))
        clear hslot hoth hdo hcl hLi
        refine guard_none (by rfl) ?_
        go_simp
        exact hK _ _ (flat_mark (hR.1) (fun _ _ h => h) hR.2 rfl)
      · have s18 : b0.tmps.getD 18 undef = .bool true := (hslot 1 18 (by rfl)).trans (hR.2 1 (done_at hdo 1 (by rfl)))
        clear hslot hoth hdo hcl hLi
        refine guard_none (by rfl) ?_
        go_simp
        exact hK _ _ (flat_mark (hR.1) (fun _ _ h => h) hR.2 rfl)
      · have s18 : b0.tmps.getD 18 undef = .bool true := (hslot 1 18 (by rfl)).trans (hR.2 1 (done_at hdo 1 (by rfl)))
        clear hslot hoth hdo hcl hLi
        refine guard_none (by rfl) ?_
        go_simp
        exact hK _ _ (flat_mark (hR.1) (fun _ _ h => h) hR.2 rfl)
    · intro b0 us wz L hslot hoth hLi hR hcl hdo K hK
      rcases HL.out with ⟨rfl, rfl, hf⟩ | ⟨rfl, rfl, rfl, hf⟩ | ⟨rfl, rfl, rfl, rfl, hf⟩ | ⟨rfl, rfl, rfl, rfl, hf⟩ | ⟨rfl, rfl, rfl, rfl, rfl, hf⟩
      · have s19 : b0.tmps.getD 19 undef = .bool true := (hslot 2 19 (by rfl)).trans (hR.2 2 (done_at hdo 2 (by rfl)))
        clear hslot hoth hdo hcl hLi
        refine guard_none (by rfl) ?_
        go_simp
        exact hK _ _ (flat_mark (hR.1) (fun _ _ h => h) hR.2 rfl)
      · have s19 : b0.tmps.getD 19 undef = .bool false := (hslot 2 19 (by rfl)).trans (hR.2 2 (done_at hdo 2 (by rfl)))
        clear hslot hoth hdo hcl hLi
        refine guard_none (by rfl) ?_
        go_simp
        exact hK _ _ (flat_mark (hR.1) (fun _ _ h => h) hR.2 rfl)
      · have s19 : b0.tmps.getD 19 undef = .bool false := (hslot 2 19 (by rfl)).trans (hR.2 2 (done_at hdo 2 (by rfl)))
        clear hslot hoth hdo hcl hLi
        refine guard_none (by rfl) ?_
        go_simp
        exact hK _ _ (flat_mark (hR.1) (fun _ _ h => h) hR.2 rfl)
      · have s19 : b0.tmps.getD 19 undef = .bool false := (hslot 2 19 (by rfl)).trans (hR.2 2 (done_at hdo 2 (by rfl)))
        clear hslot hoth hdo hcl hLi
        refine guard_none (by rfl) ?_
        go_simp
        exact hK _ _ (flat_mark (hR.1) (fun _ _ h => h) hR.2 rfl)
      · have s19 : b0.tmps.getD 19 undef = .bool false := (hslot 2 19 (by rfl)).trans (hR.2 2 (done_at hdo 2 (by rfl)))
        clear hslot hoth hdo hcl hLi
        refine guard_none (by rfl) ?_
        go_simp
        exact hK _ _ (flat_mark (hR.1) (fun _ _ h => h) hR.2 rfl)
    · intro b0 us wz L hslot hoth hLi hR hcl hdo K hK
      rcases HL.out with ⟨rfl, rfl, hf⟩ | ⟨rfl, rfl, rfl, hf⟩ | ⟨rfl, rfl, rfl, rfl, hf⟩ | ⟨rfl, rfl, rfl, rfl, hf⟩ | ⟨rfl, rfl, rfl, rfl, rfl, hf⟩
      · have gg : us 3 = .bool true := hR.2 3 (done_at hdo 3 (by rfl))
        refine guard_off (j := 3) (want := false) (d := 20) (by rfl) (by rfl) gg (by rfl) ?_
        exact hK undef _ (flat_mark (hR.1) (fun _ _ h => h) hR.2 rfl)
      · have gg : us 3 = .bool false := hR.2 3 (done_at hdo 3 (by rfl))
        have s5 : b0.tmps.getD 5 undef = .pointer (some ⟨w.heap.size, 0, none⟩) := hoth 5 (by rfl)
        have t0 := (hR.1.mv.tap).c0
        have t1 := (hR.1.mv.tap).c1
        have t2 := (hR.1.mv.tap).c2
        have t3 := (hR.1.mv.tap).c3
        have t4 := (hR.1.mv.tap).c4
        have t5 := (hR.1.mv.tap).c5
        clear hslot hoth hdo hcl hLi
        refine guard_on (j := 3) (want := false) (d := 20) (by rfl) (by rfl) gg ?_
        go_simp
        exact hK _ _ (flat_mark (hR.1) (fun _ _ h => h) hR.2 rfl)
      · have gg : us 3 = .bool false := hR.2 3 (done_at hdo 3 (by rfl))
        have s5 : b0.tmps.getD 5 undef = .pointer (some ⟨w.heap.size, 0, none⟩) := hoth 5 (by rfl)
        have t0 := (hR.1.mv.tap).c0
        have t1 := (hR.1.mv.tap).c1
        have t2 := (hR.1.mv.tap).c2
        have t3 := (hR.1.mv.tap).c3
        have t4 := (hR.1.mv.tap).c4
        have t5 := (hR.1.mv.tap).c5
        clear hslot hoth hdo hcl hLi
        refine guard_on (j := 3) (want := false) (d := 20) (by rfl) (by rfl) gg ?_
        go_simp
        exact hK _ _ (flat_mark (hR.1) (fun _ _ h => h) hR.2 rfl)
      · have gg : us 3 = .bool false := hR.2 3 (done_at hdo 3 (by rfl))
        have s5 : b0.tmps.getD 5 undef = .pointer (some ⟨w.heap.size, 0, none⟩) := hoth 5 (by rfl)
        have t0 := (hR.1.mv.tap).c0
        have t1 := (hR.1.mv.tap).c1
        have t2 := (hR.1.mv.tap).c2
        have t3 := (hR.1.mv.tap).c3
        have t4 := (hR.1.mv.tap).c4
        have t5 := (hR.1.mv.tap).c5
        clear hslot hoth hdo hcl hLi
        refine guard_on (j := 3) (want := false) (d := 20) (by rfl) (by rfl) gg ?_
        go_simp
        exact hK _ _ (flat_mark (hR.1) (fun _ _ h => h) hR.2 rfl)
      · have gg : us 3 = .bool false := hR.2 3 (done_at hdo 3 (by rfl))
        have s5 : b0.tmps.getD 5 undef = .pointer (some ⟨w.heap.size, 0, none⟩) := hoth 5 (by rfl)
        have t0 := (hR.1.mv.tap).c0
        have t1 := (hR.1.mv.tap).c1
        have t2 := (hR.1.mv.tap).c2
        have t3 := (hR.1.mv.tap).c3
        have t4 := (hR.1.mv.tap).c4
        have t5 := (hR.1.mv.tap).c5
        clear hslot hoth hdo hcl hLi
        refine guard_on (j := 3) (want := false) (d := 20) (by rfl) (by rfl) gg ?_
        go_simp
        exact hK _ _ (flat_mark (hR.1) (fun _ _ h => h) hR.2 rfl)
    · intro b0 us wz L hslot hoth hLi hR hcl hdo K hK
      rcases HL.out with ⟨rfl, rfl, hf⟩ | ⟨rfl, rfl, rfl, hf⟩ | ⟨rfl, rfl, rfl, rfl, hf⟩ | ⟨rfl, rfl, rfl, rfl, hf⟩ | ⟨rfl, rfl, rfl, rfl, rfl, hf⟩
      · have gg : us 3 = .bool true := hR.2 3 (done_at hdo 3 (by rfl))
        refine guard_off (j := 3) (want := false) (d := 20) (by rfl) (by rfl) gg (by rfl) ?_
        exact hK undef _ (flat_mark (hR.1) (fun _ _ h => h) hR.2 rfl)
      · have gg : us 3 = .bool false := hR.2 3 (done_at hdo 3 (by rfl))
        have s21 : b0.tmps.getD 21 undef = tapV r p q h k t := (hslot 4 21 (by rfl)).trans (hR.2 4 (done_at hdo 4 (by rfl)))
        clear hslot hoth hdo hcl hLi
        refine guard_on (j := 3) (want := false) (d := 20) (by rfl) (by rfl) gg ?_
        go_simp
        refine (CT2.out wz).mono ?_
        rintro e w' ⟨rfl, hb⟩
        exact hK _ _ (flat_mark (hR.1.on hb) (fun _ _ h => h) hR.2 rfl)
      · have gg : us 3 = .bool false := hR.2 3 (done_at hdo 3 (by rfl))
        have s21 : b0.tmps.getD 21 undef = tapV r p q h k t := (hslot 4 21 (by rfl)).trans (hR.2 4 (done_at hdo 4 (by rfl)))
        clear hslot hoth hdo hcl hLi
        refine guard_on (j := 3) (want := false) (d := 20) (by rfl) (by rfl) gg ?_
        go_simp
        refine (CT2.out wz).mono ?_
        rintro e w' ⟨rfl, hb⟩
        exact hK _ _ (flat_mark (hR.1.on hb) (fun _ _ h => h) hR.2 rfl)
      · have gg : us 3 = .bool false := hR.2 3 (done_at hdo 3 (by rfl))
        have s21 : b0.tmps.getD 21 undef = tapV r p q h k t := (hslot 4 21 (by rfl)).trans (hR.2 4 (done_at hdo 4 (by rfl)))
        clear hslot hoth hdo hcl hLi
        refine guard_on (j := 3) (want := false) (d := 20) (by rfl) (by rfl) gg ?_
        go_simp
        refine (CT2.out wz).mono ?_
        rintro e w' ⟨rfl, hb⟩
        exact hK _ _ (flat_mark (hR.1.on hb) (fun _ _ h => h) hR.2 rfl)
      · have gg : us 3 = .bool false := hR.2 3 (done_at hdo 3 (by rfl))
        have s21 : b0.tmps.getD 21 undef = tapV r p q h k t := (hslot 4 21 (by rfl)).trans (hR.2 4 (done_at hdo 4 (by rfl)))
        clear hslot hoth hdo hcl hLi
        refine guard_on (j := 3) (want := false) (d := 20) (by rfl) (by rfl) gg ?_
        go_simp
        refine (CT2.out wz).mono ?_
        rintro e w' ⟨rfl, hb⟩
        exact hK _ _ (flat_mark (hR.1.on hb) (fun _ _ h => h) hR.2 rfl)
    · intro b0 us wz L hslot hoth hLi hR hcl hdo K hK
      rcases HL.out with ⟨rfl, rfl, hf⟩ | ⟨rfl, rfl, rfl, hf⟩ | ⟨rfl, rfl, rfl, rfl, hf⟩ | ⟨rfl, rfl, rfl, rfl, hf⟩ | ⟨rfl, rfl, rfl, rfl, rfl, hf⟩
      · have gg : us 3 = .bool true := hR.2 3 (done_at hdo 3 (by rfl))
        refine guard_off (j := 3) (want := false) (d := 20) (by rfl) (by rfl) gg (by rfl) ?_
        exact hK undef _ (flat_mark (hR.1) (fun _ _ h => h) hR.2 rfl)
      · have gg : us 3 = .bool false := hR.2 3 (done_at hdo 3 (by rfl))
        have s22 : b0.tmps.getD 22 undef = .bool false := (hslot 5 22 (by rfl)).trans (hR.2 5 (done_at hdo 5 (by rfl)))
        clear hslot hoth hdo hcl hLi
        refine guard_on (j := 3) (want := false) (d := 20) (by rfl) (by rfl) gg ?_
        go_simp
        exact hK _ _ (flat_mark (hR.1) (fun _ _ h => h) hR.2 rfl)
      · have gg : us 3 = .bool false := hR.2 3 (done_at hdo 3 (by rfl))
        have s22 : b0.tmps.getD 22 undef = .bool true := (hslot 5 22 (by rfl)).trans (hR.2 5 (done_at hdo 5 (by rfl)))
        clear hslot hoth hdo hcl hLi
        refine guard_on (j := 3) (want := false) (d := 20) (by rfl) (by rfl) gg ?_
        go_simp
        exact hK _ _ (flat_mark (hR.1) (fun _ _ h => h) hR.2 rfl)
      · have gg : us 3 = .bool false := hR.2 3 (done_at hdo 3 (by rfl))
        have s22 : b0.tmps.getD 22 undef = .bool true := (hslot 5 22 (by rfl)).trans (hR.2 5 (done_at hdo 5 (by rfl)))
        clear hslot hoth hdo hcl hLi
        refine guard_on (j := 3) (want := false) (d := 20) (by rfl) (by rfl) gg ?_
        go_simp
        exact hK _ _ (flat_mark (hR.1) (fun _ _ h => h) hR.2 rfl)
      · have gg : us 3 = .bool false := hR.2 3 (done_at hdo 3 (by rfl))
        have s22 : b0.tmps.getD 22 undef = .bool true := (hslot 5 22 (by rfl)).trans (hR.2 5 (done_at hdo 5 (by rfl)))
        clear hslot hoth hdo hcl hLi
        refine guard_on (j := 3) (want := false) (d := 20) (by rfl) (by rfl) gg ?_
        go_simp
        exact hK _ _ (flat_mark (hR.1) (fun _ _ h => h) hR.2 rfl)
    · intro b0 us wz L hslot hoth hLi hR hcl hdo K hK
      rcases HL.out with ⟨rfl, rfl, hf⟩ | ⟨rfl, rfl, rfl, hf⟩ | ⟨rfl, rfl, rfl, rfl, hf⟩ | ⟨rfl, rfl, rfl, rfl, hf⟩ | ⟨rfl, rfl, rfl, rfl, rfl, hf⟩
      · have s20 : b0.tmps.getD 20 undef = .bool true := (hslot 3 20 (by rfl)).trans (hR.2 3 (done_at hdo 3 (by rfl)))
        have s23 : b0.tmps.getD 23 undef = undef := (hslot 6 23 (by rfl)).trans (hR.2 6 (done_at hdo 6 (by rfl)))
        clear hslot hoth hdo hcl hLi
        refine guard_none (by rfl) ?_
        go_simp
        exact hK _ _ (flat_mark (hR.1) (fun _ _ h => h) hR.2 rfl)
      · have s20 : b0.tmps.getD 20 undef = .bool false := (hslot 3 20 (by rfl)).trans (hR.2 3 (done_at hdo 3 (by rfl)))
        have s23 : b0.tmps.getD 23 undef = .bool true := (hslot 6 23 (by rfl)).trans (hR.2 6 (done_at hdo 6 (by rfl)))
        clear hslot hoth hdo hcl hLi
        refine guard_none (by rfl) ?_
        go_simp
        exact hK _ _ (flat_mark (hR.1) (fun _ _ h => h) hR.2 rfl)
      · have s20 : b0.tmps.getD 20 undef = .bool false := (hslot 3 20 (by rfl)).trans (hR.2 3 (done_at hdo 3 (by rfl)))
        have s23 : b0.tmps.getD 23 undef = .bool false := (hslot 6 23 (by rfl)).trans (hR.2 6 (done_at hdo 6 (by rfl)))
        clear hslot hoth hdo hcl hLi
        refine guard_none (by rfl) ?_
        go_simp
        exact hK _ _ (flat_mark (hR.1) (fun _ _ h => h) hR.2 rfl)
      · have s20 : b0.tmps.getD 20 undef = .bool false := (hslot 3 20 (by rfl)).trans (hR.2 3 (done_at hdo 3 (by rfl)))
        have s23 : b0.tmps.getD 23 undef = .bool false := (hslot 6 23 (by rfl)).trans (hR.2 6 (done_at hdo 6 (by rfl)))
        clear hslot hoth hdo hcl hLi
        refine guard_none (by rfl) ?_
        go_simp
        exact hK _ _ (flat_mark (hR.1) (fun _ _ h => h) hR.2 rfl)
      · have s20 : b0.tmps.getD 20 undef = .bool false := (hslot 3 20 (by rfl)).trans (hR.2 3 (done_at hdo 3 (by rfl)))
        have s23 : b0.tmps.getD 23 undef = .bool false := (hslot 6 23 (by rfl)).trans (hR.2 6 (done_at hdo 6 (by rfl)))
        clear hslot hoth hdo hcl hLi
        refine guard_none (by rfl) ?_
        go_simp
        exact hK _ _ (flat_mark (hR.1) (fun _ _ h => h) hR.2 rfl)
    · intro b0 us wz L hslot hoth hLi hR hcl hdo K hK
      rcases HL.out with ⟨rfl, rfl, hf⟩ | ⟨rfl, rfl, rfl, hf⟩ | ⟨rfl, rfl, rfl, rfl, hf⟩ | ⟨rfl, rfl, rfl, rfl, hf⟩ | ⟨rfl, rfl, rfl, rfl, rfl, hf⟩
      · have s24 : b0.tmps.getD 24 undef = .bool true := (hslot 7 24 (by rfl)).trans (hR.2 7 (done_at hdo 7 (by rfl)))
        clear hslot hoth hdo hcl hLi
        refine guard_none (by rfl) ?_
        go_simp
        exact hK _ _ (flat_mark (hR.1) (fun _ _ h => h) hR.2 rfl)
      · have s24 : b0.tmps.getD 24 undef = .bool true := (hslot 7 24 (by rfl)).trans (hR.2 7 (done_at hdo 7 (by rfl)))
        clear hslot hoth hdo hcl hLi
        refine guard_none (by rfl) ?_
        go_simp
        exact hK _ _ (flat_mark (hR.1) (fun _ _ h => h) hR.2 rfl)
      · have s24 : b0.tmps.getD 24 undef = .bool false := (hslot 7 24 (by rfl)).trans (hR.2 7 (done_at hdo 7 (by rfl)))
        clear hslot hoth hdo hcl hLi
        refine guard_none (by rfl) ?_
        go_simp
        exact hK _ _ (flat_mark (hR.1) (fun _ _ h => h) hR.2 rfl)
      · have s24 : b0.tmps.getD 24 undef = .bool false := (hslot 7 24 (by rfl)).trans (hR.2 7 (done_at hdo 7 (by rfl)))
        clear hslot hoth hdo hcl hLi
        refine guard_none (by rfl) ?_
        go_simp
        exact hK _ _ (flat_mark (hR.1) (fun _ _ h => h) hR.2 rfl)
      · have s24 : b0.tmps.getD 24 undef = .bool false := (hslot 7 24 (by rfl)).trans (hR.2 7 (done_at hdo 7 (by rfl)))
        clear hslot hoth hdo hcl hLi
        refine guard_none (by rfl) ?_
        go_simp
        exact hK _ _ (flat_mark (hR.1) (fun _ _ h => h) hR.2 rfl)
    · intro b0 us wz L hslot hoth hLi hR hcl hdo K hK
      rcases HL.out with ⟨rfl, rfl, hf⟩ | ⟨rfl, rfl, rfl, hf⟩ | ⟨rfl, rfl, rfl, rfl, hf⟩ | ⟨rfl, rfl, rfl, rfl, hf⟩ | ⟨rfl, rfl, rfl, rfl, rfl, hf⟩
      · have gg : us 8 = .bool true := hR.2 8 (done_at hdo 8 (by rfl))
        refine guard_off (j := 8) (want := false) (d := 25) (by rfl) (by rfl) gg (by rfl) ?_
        exact hK undef _ (flat_mark (hR.1) (fun _ _ h => h) hR.2 rfl)
      · have gg : us 8 = .bool true := hR.2 8 (done_at hdo 8 (by rfl))
        refine guard_off (j := 8) (want := false) (d := 25) (by rfl) (by rfl) gg (by rfl) ?_
        exact hK undef _ (flat_mark (hR.1) (fun _ _ h => h) hR.2 rfl)
      · have gg : us 8 = .bool false := hR.2 8 (done_at hdo 8 (by rfl))
        have s1 : b0.tmps.getD 1 undef = .int .i64 P := hoth 1 (by rfl)
        clear hslot hoth hdo hcl hLi
        refine guard_on (j := 8) (want := false) (d := 25) (by rfl) (by rfl) gg ?_
        go_simp
        exact hK _ _ (flat_mark (hR.1) (fun _ _ h => h) hR.2 rfl)
      · have gg : us 8 = .bool false := hR.2 8 (done_at hdo 8 (by rfl))
        have s1 : b0.tmps.getD 1 undef = .int .i64 P := hoth 1 (by rfl)
        clear hslot hoth hdo hcl hLi
        refine guard_on (j := 8) (want := false) (d := 25) (by rfl) (by rfl) gg ?_
        go_simp
        exact hK _ _ (flat_mark (hR.1) (fun _ _ h => h) hR.2 rfl)
      · have gg : us 8 = .bool false := hR.2 8 (done_at hdo 8 (by rfl))
        have s1 : b0.tmps.getD 1 undef = .int .i64 (m : Int) := hoth 1 (by rfl)
        clear hslot hoth hdo hcl hLi
        refine guard_on (j := 8) (want := false) (d := 25) (by rfl) (by rfl) gg ?_
        go_simp
        exact hK _ _ (flat_mark (hR.1) (fun _ _ h => h) hR.2 rfl)
    · intro b0 us wz L hslot hoth hLi hR hcl hdo K hK
      rcases HL.out with ⟨rfl, rfl, hf⟩ | ⟨rfl, rfl, rfl, hf⟩ | ⟨rfl, rfl, rfl, rfl, hf⟩ | ⟨rfl, rfl, rfl, rfl, hf⟩ | ⟨rfl, rfl, rfl, rfl, rfl, hf⟩
      · have gg : us 8 = .bool true := hR.2 8 (done_at hdo 8 (by rfl))
        refine guard_off (j := 8) (want := false) (d := 25) (by rfl) (by rfl) gg (by rfl) ?_
        exact hK undef _ (flat_mark (hR.1) (fun _ _ h => h) hR.2 rfl)
      · have gg : us 8 = .bool true := hR.2 8 (done_at hdo 8 (by rfl))
        refine guard_off (j := 8) (want := false) (d := 25) (by rfl) (by rfl) gg (by rfl) ?_
        exact hK undef _ (flat_mark (hR.1) (fun _ _ h => h) hR.2 rfl)
      · have gg : us 8 = .bool false := hR.2 8 (done_at hdo 8 (by rfl))
        have s0 : b0.tmps.getD 0 undef = .slice (some p0) n cap := hoth 0 (by rfl)
        clear hslot hoth hdo hcl hLi
        refine guard_on (j := 8) (want := false) (d := 25) (by rfl) (by rfl) gg ?_
        go_simp
        exact hK _ _ (flat_mark (hR.1) (fun _ _ h => h) hR.2 rfl)
      · have gg : us 8 = .bool false := hR.2 8 (done_at hdo 8 (by rfl))
        have s0 : b0.tmps.getD 0 undef = .slice (some p0) n cap := hoth 0 (by rfl)
        clear hslot hoth hdo hcl hLi
        refine guard_on (j := 8) (want := false) (d := 25) (by rfl) (by rfl) gg ?_
        go_simp
        exact hK _ _ (flat_mark (hR.1) (fun _ _ h => h) hR.2 rfl)
      · have gg : us 8 = .bool false := hR.2 8 (done_at hdo 8 (by rfl))
        have s0 : b0.tmps.getD 0 undef = .slice (some p0) n cap := hoth 0 (by rfl)
        clear hslot hoth hdo hcl hLi
        refine guard_on (j := 8) (want := false) (d := 25) (by rfl) (by rfl) gg ?_
        go_simp
        exact hK _ _ (flat_mark (hR.1) (fun _ _ h => h) hR.2 rfl)
    · intro b0 us wz L hslot hoth hLi hR hcl hdo K hK
      rcases HL.out with ⟨rfl, rfl, hf⟩ | ⟨rfl, rfl, rfl, hf⟩ | ⟨rfl, rfl, rfl, rfl, hf⟩ | ⟨rfl, rfl, rfl, rfl, hf⟩ | ⟨rfl, rfl, rfl, rfl, rfl, hf⟩
      · have gg : us 8 = .bool true := hR.2 8 (done_at hdo 8 (by rfl))
        refine guard_off (j := 8) (want := false) (d := 25) (by rfl) (by rfl) gg (by rfl) ?_
        exact hK undef _ (flat_mark (hR.1) (fun _ _ h => h) hR.2 rfl)
      · have gg : us 8 = .bool true := hR.2 8 (done_at hdo 8 (by rfl))
        refine guard_off (j := 8) (want := false) (d := 25) (by rfl) (by rfl) gg (by rfl) ?_
        exact hK undef _ (flat_mark (hR.1) (fun _ _ h => h) hR.2 rfl)
      · have gg : us 8 = .bool false := hR.2 8 (done_at hdo 8 (by rfl))
        have s27 : b0.tmps.getD 27 undef = .slice (some p0) n cap := (hslot 10 27 (by rfl)).trans (hR.2 10 (done_at hdo 10 (by rfl)))
        clear hslot hoth hdo hcl hLi
        refine guard_on (j := 8) (want := false) (d := 25) (by rfl) (by rfl) gg ?_
        go_simp
        exact hK _ _ (flat_mark (hR.1) (fun _ _ h => h) hR.2 rfl)
      · have gg : us 8 = .bool false := hR.2 8 (done_at hdo 8 (by rfl))
        have s27 : b0.tmps.getD 27 undef = .slice (some p0) n cap := (hslot 10 27 (by rfl)).trans (hR.2 10 (done_at hdo 10 (by rfl)))
        clear hslot hoth hdo hcl hLi
        refine guard_on (j := 8) (want := false) (d := 25) (by rfl) (by rfl) gg ?_
        go_simp
        exact hK _ _ (flat_mark (hR.1) (fun _ _ h => h) hR.2 rfl)
      · have gg : us 8 = .bool false := hR.2 8 (done_at hdo 8 (by rfl))
        have s27 : b0.tmps.getD 27 undef = .slice (some p0) n cap := (hslot 10 27 (by rfl)).trans (hR.2 10 (done_at hdo 10 (by rfl)))
        clear hslot hoth hdo hcl hLi
        refine guard_on (j := 8) (want := false) (d := 25) (by rfl) (by rfl) gg ?_
        go_simp
        exact hK _ _ (flat_mark (hR.1) (fun _ _ h => h) hR.2 rfl)
    · intro b0 us wz L hslot hoth hLi hR hcl hdo K hK
      rcases HL.out with ⟨rfl, rfl, hf⟩ | ⟨rfl, rfl, rfl, hf⟩ | ⟨rfl, rfl, rfl, rfl, hf⟩ | ⟨rfl, rfl, rfl, rfl, hf⟩ | ⟨rfl, rfl, rfl, rfl, rfl, hf⟩
      · have gg : us 8 = .bool true := hR.2 8 (done_at hdo 8 (by rfl))
        refine guard_off (j := 8) (want := false) (d := 25) (by rfl) (by rfl) gg (by rfl) ?_
        exact hK undef _ (flat_mark (hR.1) (fun _ _ h => h) hR.2 rfl)
      · have gg : us 8 = .bool true := hR.2 8 (done_at hdo 8 (by rfl))
        refine guard_off (j := 8) (want := false) (d := 25) (by rfl) (by rfl) gg (by rfl) ?_
        exact hK undef _ (flat_mark (hR.1) (fun _ _ h => h) hR.2 rfl)
      · have gg : us 8 = .bool false := hR.2 8 (done_at hdo 8 (by rfl))
        have s28 : b0.tmps.getD 28 undef = .int .i64 (n : Int) := (hslot 11 28 (by rfl)).trans (hR.2 11 (done_at hdo 11 (by rfl)))
        have hw := wraps_pred n HN6.out.1
        clear hslot hoth hdo hcl hLi
        refine guard_on (j := 8) (want := false) (d := 25) (by rfl) (by rfl) gg ?_
        go_simp
        exact hK _ _ (flat_mark (hR.1) (fun _ _ h => h) hR.2 rfl)
      · have gg : us 8 = .bool false := hR.2 8 (done_at hdo 8 (by rfl))
        have s28 : b0.tmps.getD 28 undef = .int .i64 (n : Int) := (hslot 11 28 (by rfl)).trans (hR.2 11 (done_at hdo 11 (by rfl)))
        have hw := wraps_pred n HN6.out.1
        clear hslot hoth hdo hcl hLi
        refine guard_on (j := 8) (want := false) (d := 25) (by rfl) (by rfl) gg ?_
        go_simp
        exact hK _ _ (flat_mark (hR.1) (fun _ _ h => h) hR.2 rfl)
      · have gg : us 8 = .bool false := hR.2 8 (done_at hdo 8 (by rfl))
        have s28 : b0.tmps.getD 28 undef = .int .i64 (n : Int) := (hslot 11 28 (by rfl)).trans (hR.2 11 (done_at hdo 11 (by rfl)))
        have hw := wraps_pred n HN6.out.1
        clear hslot hoth hdo hcl hLi
        refine guard_on (j := 8) (want := false) (d := 25) (by rfl) (by rfl) gg ?_
        go_simp
        exact hK _ _ (flat_mark (hR.1) (fun _ _ h => h) hR.2 rfl)
    · intro b0 us wz L hslot hoth hLi hR hcl hdo K hK
      rcases HL.out with ⟨rfl, rfl, hf⟩ | ⟨rfl, rfl, rfl, hf⟩ | ⟨rfl, rfl, rfl, rfl, hf⟩ | ⟨rfl, rfl, rfl, rfl, hf⟩ | ⟨rfl, rfl, rfl, rfl, rfl, hf⟩
      · have gg : us 8 = .bool true := hR.2 8 (done_at hdo 8 (by rfl))
        refine guard_off (j := 8) (want := false) (d := 25) (by rfl) (by rfl) gg (by rfl) ?_
        exact hK undef _ (flat_mark (hR.1) (fun _ _ h => h) hR.2 rfl)
      · have gg : us 8 = .bool true := hR.2 8 (done_at hdo 8 (by rfl))
        refine guard_off (j := 8) (want := false) (d := 25) (by rfl) (by rfl) gg (by rfl) ?_
        exact hK undef _ (flat_mark (hR.1) (fun _ _ h => h) hR.2 rfl)
      · have gg : us 8 = .bool false := hR.2 8 (done_at hdo 8 (by rfl))
        have s26 : b0.tmps.getD 26 undef = .int .i64 P := (hslot 9 26 (by rfl)).trans (hR.2 9 (done_at hdo 9 (by rfl)))
        have s29 : b0.tmps.getD 29 undef = .int .i64 ((n : Int) - 1) := (hslot 12 29 (by rfl)).trans (hR.2 12 (done_at hdo 12 (by rfl)))
        clear hslot hoth hdo hcl hLi
        refine guard_on (j := 8) (want := false) (d := 25) (by rfl) (by rfl) gg ?_
        go_simp
        refine (CI.out wz).mono ?_
        rintro e w' ⟨rfl, rfl⟩
        exact hK _ _ (flat_mark hR.1 (fun _ _ h => h) hR.2 rfl)
      · have gg : us 8 = .bool false := hR.2 8 (done_at hdo 8 (by rfl))
        have s26 : b0.tmps.getD 26 undef = .int .i64 P := (hslot 9 26 (by rfl)).trans (hR.2 9 (done_at hdo 9 (by rfl)))
        have s29 : b0.tmps.getD 29 undef = .int .i64 ((n : Int) - 1) := (hslot 12 29 (by rfl)).trans (hR.2 12 (done_at hdo 12 (by rfl)))
        clear hslot hoth hdo hcl hLi
        refine guard_on (j := 8) (want := false) (d := 25) (by rfl) (by rfl) gg ?_
        go_simp
        refine (CI.out wz).mono ?_
        rintro e w' ⟨rfl, rfl⟩
        exact hK _ _ (flat_mark hR.1 (fun _ _ h => h) hR.2 rfl)
      · have gg : us 8 = .bool false := hR.2 8 (done_at hdo 8 (by rfl))
        have s26 : b0.tmps.getD 26 undef = .int .i64 (m : Int) := (hslot 9 26 (by rfl)).trans (hR.2 9 (done_at hdo 9 (by rfl)))
        have s29 : b0.tmps.getD 29 undef = .int .i64 ((n : Int) - 1) := (hslot 12 29 (by rfl)).trans (hR.2 12 (done_at hdo 12 (by rfl)))
        clear hslot hoth hdo hcl hLi
        refine guard_on (j := 8) (want := false) (d := 25) (by rfl) (by rfl) gg ?_
        go_simp
        refine (CI.out wz).mono ?_
        rintro e w' ⟨rfl, rfl⟩
        exact hK _ _ (flat_mark hR.1 (fun _ _ h => h) hR.2 rfl)
    · intro b0 us wz L hslot hoth hLi hR hcl hdo K hK
      rcases HL.out with ⟨rfl, rfl, hf⟩ | ⟨rfl, rfl, rfl, hf⟩ | ⟨rfl, rfl, rfl, rfl, hf⟩ | ⟨rfl, rfl, rfl, rfl, hf⟩ | ⟨rfl, rfl, rfl, rfl, rfl, hf⟩
      · have gg : us 8 = .bool true := hR.2 8 (done_at hdo 8 (by rfl))
        refine guard_off (j := 8) (want := false) (d := 25) (by rfl) (by rfl) gg (by rfl) ?_
        exact hK undef _ (flat_mark (hR.1) (fun _ _ h => h) hR.2 rfl)
      · have gg : us 8 = .bool true := hR.2 8 (done_at hdo 8 (by rfl))
        refine guard_off (j := 8) (want := false) (d := 25) (by rfl) (by rfl) gg (by rfl) ?_
        exact hK undef _ (flat_mark (hR.1) (fun _ _ h => h) hR.2 rfl)
      · have gg : us 8 = .bool false := hR.2 8 (done_at hdo 8 (by rfl))
        have s30 : b0.tmps.getD 30 undef = .bool false := (hslot 13 30 (by rfl)).trans (hR.2 13 (done_at hdo 13 (by rfl)))
        clear hslot hoth hdo hcl hLi
        refine guard_on (j := 8) (want := false) (d := 25) (by rfl) (by rfl) gg ?_
        go_simp
        exact hK _ _ (flat_mark (hR.1) (fun _ _ h => h) hR.2 rfl)
      · have gg : us 8 = .bool false := hR.2 8 (done_at hdo 8 (by rfl))
        have s30 : b0.tmps.getD 30 undef = .bool true := (hslot 13 30 (by rfl)).trans (hR.2 13 (done_at hdo 13 (by rfl)))
        clear hslot hoth hdo hcl hLi
        refine guard_on (j := 8) (want := false) (d := 25) (by rfl) (by rfl) gg ?_
        go_simp
        exact hK _ _ (flat_mark (hR.1) (fun _ _ h => h) hR.2 rfl)
      · have gg : us 8 = .bool false := hR.2 8 (done_at hdo 8 (by rfl))
        have s30 : b0.tmps.getD 30 undef = .bool true := (hslot 13 30 (by rfl)).trans (hR.2 13 (done_at hdo 13 (by rfl)))
        clear hslot hoth hdo hcl hLi
        refine guard_on (j := 8) (want := false) (d := 25) (by rfl) (by rfl) gg ?_
        go_simp
        exact hK _ _ (flat_mark (hR.1) (fun _ _ h => h) hR.2 rfl)
    · intro b0 us wz L hslot hoth hLi hR hcl hdo K hK
      rcases HL.out with ⟨rfl, rfl, hf⟩ | ⟨rfl, rfl, rfl, hf⟩ | ⟨rfl, rfl, rfl, rfl, hf⟩ | ⟨rfl, rfl, rfl, rfl, hf⟩ | ⟨rfl, rfl, rfl, rfl, rfl, hf⟩
      · have s25 : b0.tmps.getD 25 undef = .bool true := (hslot 8 25 (by rfl)).trans (hR.2 8 (done_at hdo 8 (by rfl)))
        have s31 : b0.tmps.getD 31 undef = undef := (hslot 14 31 (by rfl)).trans (hR.2 14 (done_at hdo 14 (by rfl)))
        clear hslot hoth hdo hcl hLi
        refine guard_none (by rfl) ?_
        go_simp
        exact hK _ _ (flat_mark (hR.1) (fun _ _ h => h) hR.2 rfl)
      · have s25 : b0.tmps.getD 25 undef = .bool true := (hslot 8 25 (by rfl)).trans (hR.2 8 (done_at hdo 8 (by rfl)))
        have s31 : b0.tmps.getD 31 undef = undef := (hslot 14 31 (by rfl)).trans (hR.2 14 (done_at hdo 14 (by rfl)))
        clear hslot hoth hdo hcl hLi
        refine guard_none (by rfl) ?_
        go_simp
        exact hK _ _ (flat_mark (hR.1) (fun _ _ h => h) hR.2 rfl)
      · have s25 : b0.tmps.getD 25 undef = .bool false := (hslot 8 25 (by rfl)).trans (hR.2 8 (done_at hdo 8 (by rfl)))
        have s31 : b0.tmps.getD 31 undef = .bool true := (hslot 14 31 (by rfl)).trans (hR.2 14 (done_at hdo 14 (by rfl)))
        clear hslot hoth hdo hcl hLi
        refine guard_none (by rfl) ?_
        go_simp
        exact hK _ _ (flat_mark (hR.1) (fun _ _ h => h) hR.2 rfl)
      · have s25 : b0.tmps.getD 25 undef = .bool false := (hslot 8 25 (by rfl)).trans (hR.2 8 (done_at hdo 8 (by rfl)))
        have s31 : b0.tmps.getD 31 undef = .bool false := (hslot 14 31 (by rfl)).trans (hR.2 14 (done_at hdo 14 (by rfl)))
        clear hslot hoth hdo hcl hLi
        refine guard_none (by rfl) ?_
        go_simp
        exact hK _ _ (flat_mark (hR.1) (fun _ _ h => h) hR.2 rfl)
      · have s25 : b0.tmps.getD 25 undef = .bool false := (hslot 8 25 (by rfl)).trans (hR.2 8 (done_at hdo 8 (by rfl)))
        have s31 : b0.tmps.getD 31 undef = .bool false := (hslot 14 31 (by rfl)).trans (hR.2 14 (done_at hdo 14 (by rfl)))
        clear hslot hoth hdo hcl hLi
        refine guard_none (by rfl) ?_
        go_simp
        exact hK _ _ (flat_mark (hR.1) (fun _ _ h => h) hR.2 rfl)
    · intro b0 us wz L hslot hoth hLi hR hcl hdo K hK
      rcases HL.out with ⟨rfl, rfl, hf⟩ | ⟨rfl, rfl, rfl, hf⟩ | ⟨rfl, rfl, rfl, rfl, hf⟩ | ⟨rfl, rfl, rfl, rfl, hf⟩ | ⟨rfl, rfl, rfl, rfl, rfl, hf⟩
      · have s32 : b0.tmps.getD 32 undef = .bool true := (hslot 15 32 (by rfl)).trans (hR.2 15 (done_at hdo 15 (by rfl)))
        clear hslot hoth hdo hcl hLi
        refine guard_none (by rfl) ?_
        go_simp
        exact hK _ _ (flat_mark (hR.1) (fun _ _ h => h) hR.2 rfl)
      · have s32 : b0.tmps.getD 32 undef = .bool true := (hslot 15 32 (by rfl)).trans (hR.2 15 (done_at hdo 15 (by rfl)))
        clear hslot hoth hdo hcl hLi
        refine guard_none (by rfl) ?_
        go_simp
        exact hK _ _ (flat_mark (hR.1) (fun _ _ h => h) hR.2 rfl)
      · have s32 : b0.tmps.getD 32 undef = .bool true := (hslot 15 32 (by rfl)).trans (hR.2 15 (done_at hdo 15 (by rfl)))
        clear hslot hoth hdo hcl hLi
        refine guard_none (by rfl) ?_
        go_simp
        exact hK _ _ (flat_mark (hR.1) (fun _ _ h => h) hR.2 rfl)
      · have s32 : b0.tmps.getD 32 undef = .bool false := (hslot 15 32 (by rfl)).trans (hR.2 15 (done_at hdo 15 (by rfl)))
        clear hslot hoth hdo hcl hLi
        refine guard_none (by rfl) ?_
        go_simp
        exact hK _ _ (flat_mark (hR.1) (fun _ _ h => h) hR.2 rfl)
      · have s32 : b0.tmps.getD 32 undef = .bool false := (hslot 15 32 (by rfl)).trans (hR.2 15 (done_at hdo 15 (by rfl)))
        clear hslot hoth hdo hcl hLi
        refine guard_none (by rfl) ?_
        go_simp
        exact hK _ _ (flat_mark (hR.1) (fun _ _ h => h) hR.2 rfl)
    · intro b0 us wz L hslot hoth hLi hR hcl hdo K hK
      rcases HL.out with ⟨rfl, rfl, hf⟩ | ⟨rfl, rfl, rfl, hf⟩ | ⟨rfl, rfl, rfl, rfl, hf⟩ | ⟨rfl, rfl, rfl, rfl, hf⟩ | ⟨rfl, rfl, rfl, rfl, rfl, hf⟩
      · have gg : us 16 = .bool true := hR.2 16 (done_at hdo 16 (by rfl))
        refine guard_off (j := 16) (want := false) (d := 33) (by rfl) (by rfl) gg (by rfl) ?_
        exact hK undef _ (flat_mark (hR.1) (fun _ _ h => h) hR.2 rfl)
      · have gg : us 16 = .bool true := hR.2 16 (done_at hdo 16 (by rfl))
        refine guard_off (j := 16) (want := false) (d := 33) (by rfl) (by rfl) gg (by rfl) ?_
        exact hK undef _ (flat_mark (hR.1) (fun _ _ h => h) hR.2 rfl)
      · have gg : us 16 = .bool true := hR.2 16 (done_at hdo 16 (by rfl))
        refine guard_off (j := 16) (want := false) (d := 33) (by rfl) (by rfl) gg (by rfl) ?_
        exact hK undef _ (flat_mark (hR.1) (fun _ _ h => h) hR.2 rfl)
      · have gg : us 16 = .bool false := hR.2 16 (done_at hdo 16 (by rfl))
        have s5 : b0.tmps.getD 5 undef = .pointer (some ⟨w.heap.size, 0, none⟩) := hoth 5 (by rfl)
        clear hslot hoth hdo hcl hLi
        refine guard_on (j := 16) (want := false) (d := 33) (by rfl) (by rfl) gg ?_
        go_simp
        exact hK _ _ (flat_mark (hR.1) (fun _ _ h => h) hR.2 rfl)
      · have gg : us 16 = .bool false := hR.2 16 (done_at hdo 16 (by rfl))
        have s5 : b0.tmps.getD 5 undef = .pointer (some ⟨w.heap.size, 0, none⟩) := hoth 5 (by rfl)
        clear hslot hoth hdo hcl hLi
        refine guard_on (j := 16) (want := false) (d := 33) (by rfl) (by rfl) gg ?_
        go_simp
        exact hK _ _ (flat_mark (hR.1) (fun _ _ h => h) hR.2 rfl)
    · intro b0 us wz L hslot hoth hLi hR hcl hdo K hK
      rcases HL.out with ⟨rfl, rfl, hf⟩ | ⟨rfl, rfl, rfl, hf⟩ | ⟨rfl, rfl, rfl, rfl, hf⟩ | ⟨rfl, rfl, rfl, rfl, hf⟩ | ⟨rfl, rfl, rfl, rfl, rfl, hf⟩
      · have gg : us 16 = .bool true := hR.2 16 (done_at hdo 16 (by rfl))
        refine guard_off (j := 16) (want := false) (d := 33) (by rfl) (by rfl) gg (by rfl) ?_
        exact hK undef _ (flat_mark (hR.1) (fun _ _ h => h) hR.2 rfl)
      · have gg : us 16 = .bool true := hR.2 16 (done_at hdo 16 (by rfl))
        refine guard_off (j := 16) (want := false) (d := 33) (by rfl) (by rfl) gg (by rfl) ?_
        exact hK undef _ (flat_mark (hR.1) (fun _ _ h => h) hR.2 rfl)
      · have gg : us 16 = .bool true := hR.2 16 (done_at hdo 16 (by rfl))
        refine guard_off (j := 16) (want := false) (d := 33) (by rfl) (by rfl) gg (by rfl) ?_
        exact hK undef _ (flat_mark (hR.1) (fun _ _ h => h) hR.2 rfl)
      · have gg : us 16 = .bool false := hR.2 16 (done_at hdo 16 (by rfl))
        have s34 : b0.tmps.getD 34 undef = .pointer (some ⟨w.heap.size, 1, none⟩) := (hslot 17 34 (by rfl)).trans (hR.2 17 (done_at hdo 17 (by rfl)))
        have t0 := (hR.1.mv.tap).c0
        have t1 := (hR.1.mv.tap).c1
        have t2 := (hR.1.mv.tap).c2
        have t3 := (hR.1.mv.tap).c3
        have t4 := (hR.1.mv.tap).c4
        have t5 := (hR.1.mv.tap).c5
        clear hslot hoth hdo hcl hLi
        refine guard_on (j := 16) (want := false) (d := 33) (by rfl) (by rfl) gg ?_
        go_simp
        exact hK _ _ (flat_mark (hR.1) (fun _ _ h => h) hR.2 rfl)
      · have gg : us 16 = .bool false := hR.2 16 (done_at hdo 16 (by rfl))
        have s34 : b0.tmps.getD 34 undef = .pointer (some ⟨w.heap.size, 1, none⟩) := (hslot 17 34 (by rfl)).trans (hR.2 17 (done_at hdo 17 (by rfl)))
        have t0 := (hR.1.mv.tap).c0
        have t1 := (hR.1.mv.tap).c1
        have t2 := (hR.1.mv.tap).c2
        have t3 := (hR.1.mv.tap).c3
        have t4 := (hR.1.mv.tap).c4
        have t5 := (hR.1.mv.tap).c5
        clear hslot hoth hdo hcl hLi
        refine guard_on (j := 16) (want := false) (d := 33) (by rfl) (by rfl) gg ?_
        go_simp
        exact hK _ _ (flat_mark (hR.1) (fun _ _ h => h) hR.2 rfl)
    · intro b0 us wz L hslot hoth hLi hR hcl hdo K hK
      rcases HL.out with ⟨rfl, rfl, hf⟩ | ⟨rfl, rfl, rfl, hf⟩ | ⟨rfl, rfl, rfl, rfl, hf⟩ | ⟨rfl, rfl, rfl, rfl, hf⟩ | ⟨rfl, rfl, rfl, rfl, rfl, hf⟩
      · have gg : us 16 = .bool true := hR.2 16 (done_at hdo 16 (by rfl))
        refine guard_off (j := 16) (want := false) (d := 33) (by rfl) (by rfl) gg (by rfl) ?_
        exact hK undef _ (flat_mark (hR.1) (fun _ _ h => h) hR.2 rfl)
      · have gg : us 16 = .bool true := hR.2 16 (done_at hdo 16 (by rfl))
        refine guard_off (j := 16) (want := false) (d := 33) (by rfl) (by rfl) gg (by rfl) ?_
        exact hK undef _ (flat_mark (hR.1) (fun _ _ h => h) hR.2 rfl)
      · have gg : us 16 = .bool true := hR.2 16 (done_at hdo 16 (by rfl))
        refine guard_off (j := 16) (want := false) (d := 33) (by rfl) (by rfl) gg (by rfl) ?_
        exact hK undef _ (flat_mark (hR.1) (fun _ _ h => h) hR.2 rfl)
      · have gg : us 16 = .bool false := hR.2 16 (done_at hdo 16 (by rfl))
        have s0 : b0.tmps.getD 0 undef = .slice (some p0) n cap := hoth 0 (by rfl)
        clear hslot hoth hdo hcl hLi
        refine guard_on (j := 16) (want := false) (d := 33) (by rfl) (by rfl) gg ?_
        go_simp
        exact hK _ _ (flat_mark (hR.1) (fun _ _ h => h) hR.2 rfl)
      · have gg : us 16 = .bool false := hR.2 16 (done_at hdo 16 (by rfl))
        have s0 : b0.tmps.getD 0 undef = .slice (some p0) n cap := hoth 0 (by rfl)
        clear hslot hoth hdo hcl hLi
        refine guard_on (j := 16) (want := false) (d := 33) (by rfl) (by rfl) gg ?_
        go_simp
        exact hK _ _ (flat_mark (hR.1) (fun _ _ h => h) hR.2 rfl)
    · intro b0 us wz L hslot hoth hLi hR hcl hdo K hK
      rcases HL.out with ⟨rfl, rfl, hf⟩ | ⟨rfl, rfl, rfl, hf⟩ | ⟨rfl, rfl, rfl, rfl, hf⟩ | ⟨rfl, rfl, rfl, rfl, hf⟩ | ⟨rfl, rfl, rfl, rfl, rfl, hf⟩
      · have gg : us 16 = .bool true := hR.2 16 (done_at hdo 16 (by rfl))
        refine guard_off (j := 16) (want := false) (d := 33) (by rfl) (by rfl) gg (by rfl) ?_
        exact hK undef _ (flat_mark (hR.1) (fun _ _ h => h) hR.2 rfl)
      · have gg : us 16 = .bool true := hR.2 16 (done_at hdo 16 (by rfl))
        refine guard_off (j := 16) (want := false) (d := 33) (by rfl) (by rfl) gg (by rfl) ?_
        exact hK undef _ (flat_mark (hR.1) (fun _ _ h => h) hR.2 rfl)
      · have gg : us 16 = .bool true := hR.2 16 (done_at hdo 16 (by rfl))
        refine guard_off (j := 16) (want := false) (d := 33) (by rfl) (by rfl) gg (by rfl) ?_
        exact hK undef _ (flat_mark (hR.1) (fun _ _ h => h) hR.2 rfl)
      · have gg : us 16 = .bool false := hR.2 16 (done_at hdo 16 (by rfl))
        have s36 : b0.tmps.getD 36 undef = .slice (some p0) n cap := (hslot 19 36 (by rfl)).trans (hR.2 19 (done_at hdo 19 (by rfl)))
        clear hslot hoth hdo hcl hLi
        refine guard_on (j := 16) (want := false) (d := 33) (by rfl) (by rfl) gg ?_
        go_simp
        exact hK _ _ (flat_mark (hR.1) (fun _ _ h => h) hR.2 rfl)
      · have gg : us 16 = .bool false := hR.2 16 (done_at hdo 16 (by rfl))
        have s36 : b0.tmps.getD 36 undef = .slice (some p0) n cap := (hslot 19 36 (by rfl)).trans (hR.2 19 (done_at hdo 19 (by rfl)))
        clear hslot hoth hdo hcl hLi
        refine guard_on (j := 16) (want := false) (d := 33) (by rfl) (by rfl) gg ?_
        go_simp
        exact hK _ _ (flat_mark (hR.1) (fun _ _ h => h) hR.2 rfl)
    · intro b0 us wz L hslot hoth hLi hR hcl hdo K hK
      rcases HL.out with ⟨rfl, rfl, hf⟩ | ⟨rfl, rfl, rfl, hf⟩ | ⟨rfl, rfl, rfl, rfl, hf⟩ | ⟨rfl, rfl, rfl, rfl, hf⟩ | ⟨rfl, rfl, rfl, rfl, rfl, hf⟩
      · have gg : us 16 = .bool true := hR.2 16 (done_at hdo 16 (by rfl))
        refine guard_off (j := 16) (want := false) (d := 33) (by rfl) (by rfl) gg (by rfl) ?_
        exact hK undef _ (flat_mark (hR.1) (fun _ _ h => h) hR.2 rfl)
      · have gg : us 16 = .bool true := hR.2 16 (done_at hdo 16 (by rfl))
        refine guard_off (j := 16) (want := false) (d := 33) (by rfl) (by rfl) gg (by rfl) ?_
        exact hK undef _ (flat_mark (hR.1) (fun _ _ h => h) hR.2 rfl)
      · have gg : us 16 = .bool true := hR.2 16 (done_at hdo 16 (by rfl))
        refine guard_off (j := 16) (want := false) (d := 33) (by rfl) (by rfl) gg (by rfl) ?_
        exact hK undef _ (flat_mark (hR.1) (fun _ _ h => h) hR.2 rfl)
      · have gg : us 16 = .bool false := hR.2 16 (done_at hdo 16 (by rfl))
        have s35 : b0.tmps.getD 35 undef = .int .i64 p := (hslot 18 35 (by rfl)).trans (hR.2 18 (done_at hdo 18 (by rfl)))
        have s37 : b0.tmps.getD 37 undef = .int .i64 (n : Int) := (hslot 20 37 (by rfl)).trans (hR.2 20 (done_at hdo 20 (by rfl)))
        have hpn : (n : Int) ≤ p := hf.out
        clear hslot hoth hdo hcl hLi
        refine guard_on (j := 16) (want := false) (d := 33) (by rfl) (by rfl) gg ?_
        go_simp
        exact hK _ _ (flat_mark (hR.1) (fun _ _ h => h) hR.2 rfl)
      · have gg : us 16 = .bool false := hR.2 16 (done_at hdo 16 (by rfl))
        have s35 : b0.tmps.getD 35 undef = .int .i64 p := (hslot 18 35 (by rfl)).trans (hR.2 18 (done_at hdo 18 (by rfl)))
        have s37 : b0.tmps.getD 37 undef = .int .i64 (n : Int) := (hslot 20 37 (by rfl)).trans (hR.2 20 (done_at hdo 20 (by rfl)))
        have hpn : ¬ ((n : Int) ≤ p) := by have := hf.out.2.1; omega
        clear hslot hoth hdo hcl hLi
        refine guard_on (j := 16) (want := false) (d := 33) (by rfl) (by rfl) gg ?_
        go_simp
        exact hK _ _ (flat_mark (hR.1) (fun _ _ h => h) hR.2 rfl)
    · intro b0 us wz L hslot hoth hLi hR hcl hdo K hK
      rcases HL.out with ⟨rfl, rfl, hf⟩ | ⟨rfl, rfl, rfl, hf⟩ | ⟨rfl, rfl, rfl, rfl, hf⟩ | ⟨rfl, rfl, rfl, rfl, hf⟩ | ⟨rfl, rfl, rfl, rfl, rfl, hf⟩
      · have s33 : b0.tmps.getD 33 undef = .bool true := (hslot 16 33 (by rfl)).trans (hR.2 16 (done_at hdo 16 (by rfl)))
        have s38 : b0.tmps.getD 38 undef = undef := (hslot 21 38 (by rfl)).trans (hR.2 21 (done_at hdo 21 (by rfl)))
        clear hslot hoth hdo hcl hLi
        refine guard_none (by rfl) ?_
        go_simp
        exact hK _ _ (flat_mark (hR.1) (fun _ _ h => h) hR.2 rfl)
      · have s33 : b0.tmps.getD 33 undef = .bool true := (hslot 16 33 (by rfl)).trans (hR.2 16 (done_at hdo 16 (by rfl)))
        have s38 : b0.tmps.getD 38 undef = undef := (hslot 21 38 (by rfl)).trans (hR.2 21 (done_at hdo 21 (by rfl)))
        clear hslot hoth hdo hcl hLi
        refine guard_none (by rfl) ?_
        go_simp
        exact hK _ _ (flat_mark (hR.1) (fun _ _ h => h) hR.2 rfl)
      · have s33 : b0.tmps.getD 33 undef = .bool true := (hslot 16 33 (by rfl)).trans (hR.2 16 (done_at hdo 16 (by rfl)))
        have s38 : b0.tmps.getD 38 undef = undef := (hslot 21 38 (by rfl)).trans (hR.2 21 (done_at hdo 21 (by rfl)))
        clear hslot hoth hdo hcl hLi
        refine guard_none (by rfl) ?_
        go_simp
        exact hK _ _ (flat_mark (hR.1) (fun _ _ h => h) hR.2 rfl)
      · have s33 : b0.tmps.getD 33 undef = .bool false := (hslot 16 33 (by rfl)).trans (hR.2 16 (done_at hdo 16 (by rfl)))
        have s38 : b0.tmps.getD 38 undef = .bool true := (hslot 21 38 (by rfl)).trans (hR.2 21 (done_at hdo 21 (by rfl)))
        clear hslot hoth hdo hcl hLi
        refine guard_none (by rfl) ?_
        go_simp
        exact hK _ _ (flat_mark (hR.1) (fun _ _ h => h) hR.2 rfl)
      · have s33 : b0.tmps.getD 33 undef = .bool false := (hslot 16 33 (by rfl)).trans (hR.2 16 (done_at hdo 16 (by rfl)))
        have s38 : b0.tmps.getD 38 undef = .bool false := (hslot 21 38 (by rfl)).trans (hR.2 21 (done_at hdo 21 (by rfl)))
        clear hslot hoth hdo hcl hLi
        refine guard_none (by rfl) ?_
        go_simp
        exact hK _ _ (flat_mark (hR.1) (fun _ _ h => h) hR.2 rfl)
    · intro b0 us wz L hslot hoth hLi hR hcl hdo K hK
      rcases HL.out with ⟨rfl, rfl, hf⟩ | ⟨rfl, rfl, rfl, hf⟩ | ⟨rfl, rfl, rfl, rfl, hf⟩ | ⟨rfl, rfl, rfl, rfl, hf⟩ | ⟨rfl, rfl, rfl, rfl, rfl, hf⟩
      · have s39 : b0.tmps.getD 39 undef = .bool true := (hslot 22 39 (by rfl)).trans (hR.2 22 (done_at hdo 22 (by rfl)))
        clear hslot hoth hdo hcl hLi
        refine guard_none (by rfl) ?_
        go_simp
        exact hK _ _ (flat_mark (hR.1) (fun _ _ h => h) hR.2 rfl)
      · have s39 : b0.tmps.getD 39 undef = .bool true := (hslot 22 39 (by rfl)).trans (hR.2 22 (done_at hdo 22 (by rfl)))
        clear hslot hoth hdo hcl hLi
        refine guard_none (by rfl) ?_
        go_simp
        exact hK _ _ (flat_mark (hR.1) (fun _ _ h => h) hR.2 rfl)
      · have s39 : b0.tmps.getD 39 undef = .bool true := (hslot 22 39 (by rfl)).trans (hR.2 22 (done_at hdo 22 (by rfl)))
        clear hslot hoth hdo hcl hLi
        refine guard_none (by rfl) ?_
        go_simp
        exact hK _ _ (flat_mark (hR.1) (fun _ _ h => h) hR.2 rfl)
      · have s39 : b0.tmps.getD 39 undef = .bool true := (hslot 22 39 (by rfl)).trans (hR.2 22 (done_at hdo 22 (by rfl)))
        clear hslot hoth hdo hcl hLi
        refine guard_none (by rfl) ?_
        go_simp
        exact hK _ _ (flat_mark (hR.1) (fun _ _ h => h) hR.2 rfl)
      · have s39 : b0.tmps.getD 39 undef = .bool false := (hslot 22 39 (by rfl)).trans (hR.2 22 (done_at hdo 22 (by rfl)))
        clear hslot hoth hdo hcl hLi
        refine guard_none (by rfl) ?_
        go_simp
        exact hK _ _ (flat_mark (hR.1) (fun _ _ h => h) hR.2 rfl)
    · intro b0 us wz L hslot hoth hLi hR hcl hdo K hK
      rcases HL.out with ⟨rfl, rfl, hf⟩ | ⟨rfl, rfl, rfl, hf⟩ | ⟨rfl, rfl, rfl, rfl, hf⟩ | ⟨rfl, rfl, rfl, rfl, hf⟩ | ⟨rfl, rfl, rfl, rfl, rfl, hf⟩
      · have gg : us 23 = .bool true := hR.2 23 (done_at hdo 23 (by rfl))
        refine guard_off (j := 23) (want := false) (d := 40) (by rfl) (by rfl) gg (by rfl) ?_
        exact hK undef _ (flat_mark (hR.1) (fun _ _ h => h) hR.2 rfl)
      · have gg : us 23 = .bool true := hR.2 23 (done_at hdo 23 (by rfl))
        refine guard_off (j := 23) (want := false) (d := 40) (by rfl) (by rfl) gg (by rfl) ?_
        exact hK undef _ (flat_mark (hR.1) (fun _ _ h => h) hR.2 rfl)
      · have gg : us 23 = .bool true := hR.2 23 (done_at hdo 23 (by rfl))
        refine guard_off (j := 23) (want := false) (d := 40) (by rfl) (by rfl) gg (by rfl) ?_
        exact hK undef _ (flat_mark (hR.1) (fun _ _ h => h) hR.2 rfl)
      · have gg : us 23 = .bool true := hR.2 23 (done_at hdo 23 (by rfl))
        refine guard_off (j := 23) (want := false) (d := 40) (by rfl) (by rfl) gg (by rfl) ?_
        exact hK undef _ (flat_mark (hR.1) (fun _ _ h => h) hR.2 rfl)
      · have gg : us 23 = .bool false := hR.2 23 (done_at hdo 23 (by rfl))
        have s0 : b0.tmps.getD 0 undef = .slice (some p0) n cap := hoth 0 (by rfl)
        clear hslot hoth hdo hcl hLi
        refine guard_on (j := 23) (want := false) (d := 40) (by rfl) (by rfl) gg ?_
        go_simp
        exact hK _ _ (flat_mark (hR.1) (fun _ _ h => h) hR.2 rfl)
    · intro b0 us wz L hslot hoth hLi hR hcl hdo K hK
      rcases HL.out with ⟨rfl, rfl, hf⟩ | ⟨rfl, rfl, rfl, hf⟩ | ⟨rfl, rfl, rfl, rfl, hf⟩ | ⟨rfl, rfl, rfl, rfl, hf⟩ | ⟨rfl, rfl, rfl, rfl, rfl, hf⟩
      · have gg : us 23 = .bool true := hR.2 23 (done_at hdo 23 (by rfl))
        refine guard_off (j := 23) (want := false) (d := 40) (by rfl) (by rfl) gg (by rfl) ?_
        exact hK undef _ (flat_mark (hR.1) (fun _ _ h => h) hR.2 rfl)
      · have gg : us 23 = .bool true := hR.2 23 (done_at hdo 23 (by rfl))
        refine guard_off (j := 23) (want := false) (d := 40) (by rfl) (by rfl) gg (by rfl) ?_
        exact hK undef _ (flat_mark (hR.1) (fun _ _ h => h) hR.2 rfl)
      · have gg : us 23 = .bool true := hR.2 23 (done_at hdo 23 (by rfl))
        refine guard_off (j := 23) (want := false) (d := 40) (by rfl) (by rfl) gg (by rfl) ?_
        exact hK undef _ (flat_mark (hR.1) (fun _ _ h => h) hR.2 rfl)
      · have gg : us 23 = .bool true := hR.2 23 (done_at hdo 23 (by rfl))
        refine guard_off (j := 23) (want := false) (d := 40) (by rfl) (by rfl) gg (by rfl) ?_
        exact hK undef _ (flat_mark (hR.1) (fun _ _ h => h) hR.2 rfl)
      · have gg : us 23 = .bool false := hR.2 23 (done_at hdo 23 (by rfl))
        have s1 : b0.tmps.getD 1 undef = .int .i64 (m : Int) := hoth 1 (by rfl)
        clear hslot hoth hdo hcl hLi
        refine guard_on (j := 23) (want := false) (d := 40) (by rfl) (by rfl) gg ?_
        go_simp
        exact hK _ _ (flat_mark (hR.1) (fun _ _ h => h) hR.2 rfl)
    · intro b0 us wz L hslot hoth hLi hR hcl hdo K hK
      rcases HL.out with ⟨rfl, rfl, hf⟩ | ⟨rfl, rfl, rfl, hf⟩ | ⟨rfl, rfl, rfl, rfl, hf⟩ | ⟨rfl, rfl, rfl, rfl, hf⟩ | ⟨rfl, rfl, rfl, rfl, rfl, hf⟩
      · have gg : us 23 = .bool true := hR.2 23 (done_at hdo 23 (by rfl))
        refine guard_off (j := 23) (want := false) (d := 40) (by rfl) (by rfl) gg (by rfl) ?_
        exact hK undef _ (flat_mark (hR.1) (fun _ _ h => h) hR.2 rfl)
      · have gg : us 23 = .bool true := hR.2 23 (done_at hdo 23 (by rfl))
        refine guard_off (j := 23) (want := false) (d := 40) (by rfl) (by rfl) gg (by rfl) ?_
        exact hK undef _ (flat_mark (hR.1) (fun _ _ h => h) hR.2 rfl)
      · have gg : us 23 = .bool true := hR.2 23 (done_at hdo 23 (by rfl))
        refine guard_off (j := 23) (want := false) (d := 40) (by rfl) (by rfl) gg (by rfl) ?_
        exact hK undef _ (flat_mark (hR.1) (fun _ _ h => h) hR.2 rfl)
      · have gg : us 23 = .bool true := hR.2 23 (done_at hdo 23 (by rfl))
        refine guard_off (j := 23) (want := false) (d := 40) (by rfl) (by rfl) gg (by rfl) ?_
        exact hK undef _ (flat_mark (hR.1) (fun _ _ h => h) hR.2 rfl)
      · have gg : us 23 = .bool false := hR.2 23 (done_at hdo 23 (by rfl))
        have s41 : b0.tmps.getD 41 undef = .slice (some p0) n cap := (hslot 24 41 (by rfl)).trans (hR.2 24 (done_at hdo 24 (by rfl)))
        have s42 : b0.tmps.getD 42 undef = .int .i64 (m : Int) := (hslot 25 42 (by rfl)).trans (hR.2 25 (done_at hdo 25 (by rfl)))
        have hmn : m < n := hf.out.1
        have hcap0 : n ≤ cap := HN6.out.2
        have hq : p0.add m = qa := hf.out.2.2.1
        clear hslot hoth hdo hcl hLi
        refine guard_on (j := 23) (want := false) (d := 40) (by rfl) (by rfl) gg ?_
        go_simp
        exact hK _ _ (flat_mark (hR.1) (fun _ _ h => h) hR.2 rfl)
    · intro b0 us wz L hslot hoth hLi hR hcl hdo K hK
      rcases HL.out with ⟨rfl, rfl, hf⟩ | ⟨rfl, rfl, rfl, hf⟩ | ⟨rfl, rfl, rfl, rfl, hf⟩ | ⟨rfl, rfl, rfl, rfl, hf⟩ | ⟨rfl, rfl, rfl, rfl, rfl, hf⟩
      · have gg : us 23 = .bool true := hR.2 23 (done_at hdo 23 (by rfl))
        refine guard_off (j := 23) (want := false) (d := 40) (by rfl) (by rfl) gg (by rfl) ?_
        exact hK undef _ (flat_mark (hR.1) (fun _ _ h => h) hR.2 rfl)
      · have gg : us 23 = .bool true := hR.2 23 (done_at hdo 23 (by rfl))
        refine guard_off (j := 23) (want := false) (d := 40) (by rfl) (by rfl) gg (by rfl) ?_
        exact hK undef _ (flat_mark (hR.1) (fun _ _ h => h) hR.2 rfl)
      · have gg : us 23 = .bool true := hR.2 23 (done_at hdo 23 (by rfl))
        refine guard_off (j := 23) (want := false) (d := 40) (by rfl) (by rfl) gg (by rfl) ?_
        exact hK undef _ (flat_mark (hR.1) (fun _ _ h => h) hR.2 rfl)
      · have gg : us 23 = .bool true := hR.2 23 (done_at hdo 23 (by rfl))
        refine guard_off (j := 23) (want := false) (d := 40) (by rfl) (by rfl) gg (by rfl) ?_
        exact hK undef _ (flat_mark (hR.1) (fun _ _ h => h) hR.2 rfl)
      · have gg : us 23 = .bool false := hR.2 23 (done_at hdo 23 (by rfl))
        have s43 : b0.tmps.getD 43 undef = .pointer (some qa) := (hslot 26 43 (by rfl)).trans (hR.2 26 (done_at hdo 26 (by rfl)))
        clear hslot hoth hdo hcl hLi
        refine guard_on (j := 23) (want := false) (d := 40) (by rfl) (by rfl) gg ?_
        go_simp
        exact hK _ _ (flat_mark (hR.1) (fun _ _ h => h) hR.2 rfl)
    · intro b0 us wz L hslot hoth hLi hR hcl hdo K hK
      rcases HL.out with ⟨rfl, rfl, hf⟩ | ⟨rfl, rfl, rfl, hf⟩ | ⟨rfl, rfl, rfl, rfl, hf⟩ | ⟨rfl, rfl, rfl, rfl, hf⟩ | ⟨rfl, rfl, rfl, rfl, rfl, hf⟩
      · have gg : us 23 = .bool true := hR.2 23 (done_at hdo 23 (by rfl))
        refine guard_off (j := 23) (want := false) (d := 40) (by rfl) (by rfl) gg (by rfl) ?_
        exact hK undef _ (flat_mark (hR.1) (fun _ _ h => h) hR.2 rfl)
      · have gg : us 23 = .bool true := hR.2 23 (done_at hdo 23 (by rfl))
        refine guard_off (j := 23) (want := false) (d := 40) (by rfl) (by rfl) gg (by rfl) ?_
        exact hK undef _ (flat_mark (hR.1) (fun _ _ h => h) hR.2 rfl)
      · have gg : us 23 = .bool true := hR.2 23 (done_at hdo 23 (by rfl))
        refine guard_off (j := 23) (want := false) (d := 40) (by rfl) (by rfl) gg (by rfl) ?_
        exact hK undef _ (flat_mark (hR.1) (fun _ _ h => h) hR.2 rfl)
      · have gg : us 23 = .bool true := hR.2 23 (done_at hdo 23 (by rfl))
        refine guard_off (j := 23) (want := false) (d := 40) (by rfl) (by rfl) gg (by rfl) ?_
        exact hK undef _ (flat_mark (hR.1) (fun _ _ h => h) hR.2 rfl)
      · have gg : us 23 = .bool false := hR.2 23 (done_at hdo 23 (by rfl))
        have s44 : b0.tmps.getD 44 undef = .pointer (some qa) := (hslot 27 44 (by rfl)).trans (hR.2 27 (done_at hdo 27 (by rfl)))
        have hc : wz.cell? qa = some (.slice (some qb) m5 qc) := (hf.out.2.2.2.1 _ hR.1.mv.below).1
        clear hslot hoth hdo hcl hLi
        refine guard_on (j := 23) (want := false) (d := 40) (by rfl) (by rfl) gg ?_
        go_simp
        exact hK _ _ (flat_mark (hR.1) (fun _ _ h => h) hR.2 rfl)
    · intro b0 us wz L hslot hoth hLi hR hcl hdo K hK
      rcases HL.out with ⟨rfl, rfl, hf⟩ | ⟨rfl, rfl, rfl, hf⟩ | ⟨rfl, rfl, rfl, rfl, hf⟩ | ⟨rfl, rfl, rfl, rfl, hf⟩ | ⟨rfl, rfl, rfl, rfl, rfl, hf⟩
      · have gg : us 23 = .bool true := hR.2 23 (done_at hdo 23 (by rfl))
        refine guard_off (j := 23) (want := false) (d := 40) (by rfl) (by rfl) gg (by rfl) ?_
        exact hK undef _ (flat_mark (hR.1) (fun _ _ h => h) hR.2 rfl)
      · have gg : us 23 = .bool true := hR.2 23 (done_at hdo 23 (by rfl))
        refine guard_off (j := 23) (want := false) (d := 40) (by rfl) (by rfl) gg (by rfl) ?_
        exact hK undef _ (flat_mark (hR.1) (fun _ _ h => h) hR.2 rfl)
      · have gg : us 23 = .bool true := hR.2 23 (done_at hdo 23 (by rfl))
        refine guard_off (j := 23) (want := false) (d := 40) (by rfl) (by rfl) gg (by rfl) ?_
        exact hK undef _ (flat_mark (hR.1) (fun _ _ h => h) hR.2 rfl)
      · have gg : us 23 = .bool true := hR.2 23 (done_at hdo 23 (by rfl))
        refine guard_off (j := 23) (want := false) (d := 40) (by rfl) (by rfl) gg (by rfl) ?_
        exact hK undef _ (flat_mark (hR.1) (fun _ _ h => h) hR.2 rfl)
      · have gg : us 23 = .bool false := hR.2 23 (done_at hdo 23 (by rfl))
        have s5 : b0.tmps.getD 5 undef = .pointer (some ⟨w.heap.size, 0, none⟩) := hoth 5 (by rfl)
        clear hslot hoth hdo hcl hLi
        refine guard_on (j := 23) (want := false) (d := 40) (by rfl) (by rfl) gg ?_
        go_simp
        exact hK _ _ (flat_mark (hR.1) (fun _ _ h => h) hR.2 rfl)
    · intro b0 us wz L hslot hoth hLi hR hcl hdo K hK
      rcases HL.out with ⟨rfl, rfl, hf⟩ | ⟨rfl, rfl, rfl, hf⟩ | ⟨rfl, rfl, rfl, rfl, hf⟩ | ⟨rfl, rfl, rfl, rfl, hf⟩ | ⟨rfl, rfl, rfl, rfl, rfl, hf⟩
      · have gg : us 23 = .bool true := hR.2 23 (done_at hdo 23 (by rfl))
        refine guard_off (j := 23) (want := false) (d := 40) (by rfl) (by rfl) gg (by rfl) ?_
        exact hK undef _ (flat_mark (hR.1) (fun _ _ h => h) hR.2 rfl)
      · have gg : us 23 = .bool true := hR.2 23 (done_at hdo 23 (by rfl))
        refine guard_off (j := 23) (want := false) (d := 40) (by rfl) (by rfl) gg (by rfl) ?_
        exact hK undef _ (flat_mark (hR.1) (fun _ _ h => h) hR.2 rfl)
      · have gg : us 23 = .bool true := hR.2 23 (done_at hdo 23 (by rfl))
        refine guard_off (j := 23) (want := false) (d := 40) (by rfl) (by rfl) gg (by rfl) ?_
        exact hK undef _ (flat_mark (hR.1) (fun _ _ h => h) hR.2 rfl)
      · have gg : us 23 = .bool true := hR.2 23 (done_at hdo 23 (by rfl))
        refine guard_off (j := 23) (want := false) (d := 40) (by rfl) (by rfl) gg (by rfl) ?_
        exact hK undef _ (flat_mark (hR.1) (fun _ _ h => h) hR.2 rfl)
      · have gg : us 23 = .bool false := hR.2 23 (done_at hdo 23 (by rfl))
        have s46 : b0.tmps.getD 46 undef = .pointer (some ⟨w.heap.size, 0, none⟩) := (hslot 29 46 (by rfl)).trans (hR.2 29 (done_at hdo 29 (by rfl)))
        have t0 := (hR.1.mv.tap).c0
        have t1 := (hR.1.mv.tap).c1
        have t2 := (hR.1.mv.tap).c2
        have t3 := (hR.1.mv.tap).c3
        have t4 := (hR.1.mv.tap).c4
        have t5 := (hR.1.mv.tap).c5
        clear hslot hoth hdo hcl hLi
        refine guard_on (j := 23) (want := false) (d := 40) (by rfl) (by rfl) gg ?_
        go_simp
        exact hK _ _ (flat_mark (hR.1) (fun _ _ h => h) hR.2 rfl)
    · intro b0 us wz L hslot hoth hLi hR hcl hdo K hK
      rcases HL.out with ⟨rfl, rfl, hf⟩ | ⟨rfl, rfl, rfl, hf⟩ | ⟨rfl, rfl, rfl, rfl, hf⟩ | ⟨rfl, rfl, rfl, rfl, hf⟩ | ⟨rfl, rfl, rfl, rfl, rfl, hf⟩
      · have gg : us 23 = .bool true := hR.2 23 (done_at hdo 23 (by rfl))
        refine guard_off (j := 23) (want := false) (d := 40) (by rfl) (by rfl) gg (by rfl) ?_
        exact hK undef _ (flat_mark (hR.1) (fun _ _ h => h) hR.2 rfl)
      · have gg : us 23 = .bool true := hR.2 23 (done_at hdo 23 (by rfl))
        refine guard_off (j := 23) (want := false) (d := 40) (by rfl) (by rfl) gg (by rfl) ?_
        exact hK undef _ (flat_mark (hR.1) (fun _ _ h => h) hR.2 rfl)
      · have gg : us 23 = .bool true := hR.2 23 (done_at hdo 23 (by rfl))
        refine guard_off (j := 23) (want := false) (d := 40) (by rfl) (by rfl) gg (by rfl) ?_
        exact hK undef _ (flat_mark (hR.1) (fun _ _ h => h) hR.2 rfl)
      · have gg : us 23 = .bool true := hR.2 23 (done_at hdo 23 (by rfl))
        refine guard_off (j := 23) (want := false) (d := 40) (by rfl) (by rfl) gg (by rfl) ?_
        exact hK undef _ (flat_mark (hR.1) (fun _ _ h => h) hR.2 rfl)
      · have gg : us 23 = .bool false := hR.2 23 (done_at hdo 23 (by rfl))
        have s45 : b0.tmps.getD 45 undef = .slice (some qb) m5 qc := (hslot 28 45 (by rfl)).trans (hR.2 28 (done_at hdo 28 (by rfl)))
        have s47 : b0.tmps.getD 47 undef = .int .i64 r := (hslot 30 47 (by rfl)).trans (hR.2 30 (done_at hdo 30 (by rfl)))
        clear hslot hoth hdo hcl hLi
        refine guard_on (j := 23) (want := false) (d := 40) (by rfl) (by rfl) gg ?_
        go_simp
        refine (hf.out.2.2.2.2 wz hR.1.mv.below).mono ?_
        rintro e w' ⟨rfl, hb⟩
        exact hK _ _ (flat_mark (hR.1.on hb) (fun _ _ h => h) hR.2 rfl)
    · intro b0 us wz L hslot hoth hLi hR hcl hdo K hK
      rcases HL.out with ⟨rfl, rfl, hf⟩ | ⟨rfl, rfl, rfl, hf⟩ | ⟨rfl, rfl, rfl, rfl, hf⟩ | ⟨rfl, rfl, rfl, rfl, hf⟩ | ⟨rfl, rfl, rfl, rfl, rfl, hf⟩
      · have gg : us 23 = .bool true := hR.2 23 (done_at hdo 23 (by rfl))
        refine guard_off (j := 23) (want := false) (d := 40) (by rfl) (by rfl) gg (by rfl) ?_
        exact hK undef _ (flat_mark (hR.1) (fun _ _ h => h) hR.2 rfl)
      · have gg : us 23 = .bool true := hR.2 23 (done_at hdo 23 (by rfl))
        refine guard_off (j := 23) (want := false) (d := 40) (by rfl) (by rfl) gg (by rfl) ?_
        exact hK undef _ (flat_mark (hR.1) (fun _ _ h => h) hR.2 rfl)
      · have gg : us 23 = .bool true := hR.2 23 (done_at hdo 23 (by rfl))
        refine guard_off (j := 23) (want := false) (d := 40) (by rfl) (by rfl) gg (by rfl) ?_
        exact hK undef _ (flat_mark (hR.1) (fun _ _ h => h) hR.2 rfl)
      · have gg : us 23 = .bool true := hR.2 23 (done_at hdo 23 (by rfl))
        refine guard_off (j := 23) (want := false) (d := 40) (by rfl) (by rfl) gg (by rfl) ?_
        exact hK undef _ (flat_mark (hR.1) (fun _ _ h => h) hR.2 rfl)
      · have gg : us 23 = .bool false := hR.2 23 (done_at hdo 23 (by rfl))
        have s48 : b0.tmps.getD 48 undef = .bool false := (hslot 31 48 (by rfl)).trans (hR.2 31 (done_at hdo 31 (by rfl)))
        clear hslot hoth hdo hcl hLi
        refine guard_on (j := 23) (want := false) (d := 40) (by rfl) (by rfl) gg ?_
        go_simp
        exact hK _ _ (flat_mark (hR.1) (fun _ _ h => h) hR.2 rfl)
    · intro b0 us wz L hslot hoth hLi hR hcl hdo K hK
      rcases HL.out with ⟨rfl, rfl, hf⟩ | ⟨rfl, rfl, rfl, hf⟩ | ⟨rfl, rfl, rfl, rfl, hf⟩ | ⟨rfl, rfl, rfl, rfl, hf⟩ | ⟨rfl, rfl, rfl, rfl, rfl, hf⟩
      · have s40 : b0.tmps.getD 40 undef = .bool true := (hslot 23 40 (by rfl)).trans (hR.2 23 (done_at hdo 23 (by rfl)))
        have s49 : b0.tmps.getD 49 undef = undef := (hslot 32 49 (by rfl)).trans (hR.2 32 (done_at hdo 32 (by rfl)))
        clear hslot hoth hdo hcl hLi
        refine guard_none (by rfl) ?_
        go_simp
        exact hK _ _ (flat_mark (hR.1) (fun _ _ h => h) hR.2 rfl)
      · have s40 : b0.tmps.getD 40 undef = .bool true := (hslot 23 40 (by rfl)).trans (hR.2 23 (done_at hdo 23 (by rfl)))
        have s49 : b0.tmps.getD 49 undef = undef := (hslot 32 49 (by rfl)).trans (hR.2 32 (done_at hdo 32 (by rfl)))
        clear hslot hoth hdo hcl hLi
        refine guard_none (by rfl) ?_
        go_simp
        exact hK _ _ (flat_mark (hR.1) (fun _ _ h => h) hR.2 rfl)
      · have s40 : b0.tmps.getD 40 undef = .bool true := (hslot 23 40 (by rfl)).trans (hR.2 23 (done_at hdo 23 (by rfl)))
        have s49 : b0.tmps.getD 49 undef = undef := (hslot 32 49 (by rfl)).trans (hR.2 32 (done_at hdo 32 (by rfl)))
        clear hslot hoth hdo hcl hLi
        refine guard_none (by rfl) ?_
        go_simp
        exact hK _ _ (flat_mark (hR.1) (fun _ _ h => h) hR.2 rfl)
      · have s40 : b0.tmps.getD 40 undef = .bool true := (hslot 23 40 (by rfl)).trans (hR.2 23 (done_at hdo 23 (by rfl)))
        have s49 : b0.tmps.getD 49 undef = undef := (hslot 32 49 (by rfl)).trans (hR.2 32 (done_at hdo 32 (by rfl)))
        clear hslot hoth hdo hcl hLi
        refine guard_none (by rfl) ?_
        go_simp
        exact hK _ _ (flat_mark (hR.1) (fun _ _ h => h) hR.2 rfl)
      · have s40 : b0.tmps.getD 40 undef = .bool false := (hslot 23 40 (by rfl)).trans (hR.2 23 (done_at hdo 23 (by rfl)))
        have s49 : b0.tmps.getD 49 undef = .bool true := (hslot 32 49 (by rfl)).trans (hR.2 32 (done_at hdo 32 (by rfl)))
        clear hslot hoth hdo hcl hLi
        refine guard_none (by rfl) ?_
        go_simp
        exact hK _ _ (flat_mark (hR.1) (fun _ _ h => h) hR.2 rfl)
  · intro us wn L hall hR a' ha'
    have g33 : us 33 = .bool true := by
      have := hR.2 33 (hall 33 (by decide))
      rcases HL.out with ⟨rfl, _⟩ | ⟨rfl, _⟩ | ⟨rfl, _⟩ | ⟨rfl, _⟩ | ⟨rfl, _⟩
      all_goals exact this
    have HB := hid_of hR.1
    clear hR hall
    simp only [putAll, g33] at ha'
    subst ha'
    go_frame
    have HSE := HB
    clear HB HL l HS HDD CK CT2 CI
    go_wp2
    go_returns
    exact ⟨g0, c0, fs0, rest0, by rw [← HNL.out]; rfl, HFS.out.1, HSE.out.out, HSE.out.mv.below⟩
end Go.Proofs.YtfcenombphodbaaDoor
