/-
  Promise 7's law at every code that is not too long: it answers true.
-/
import Derived.Test.YtfcenombphodbaaDoorDrawW
import Derived.Test.YtfcenombphodbaaDoorMathTaps
import Derived.Test.YtfcenombphodbaaDoorSumA
import Derived.Test.YtfcenombphodbaaDoorDraws
import Derived.Test.YtfcenombphodbaaDoorSameT
import Derived.Laws.StructEq
namespace Go.Proofs.YtfcenombphodbaaDoor
open Go.RowKit
set_option linter.unusedVariables false
set_option maxRecDepth 100000

theorem IsWood.cellAt {w : World} {g n c : Nat} {tss : List (List Re)} (x : IsWood w (.slice (some ⟨g, 0, none⟩) n c) tss) {i : Nat} (hi : i < tss.length) : ∃ q' c', w.cell? ⟨g, i, none⟩ = some (.slice (some q') (treeAt tss i).length c') ∧ IsTree w (.slice (some q') (treeAt tss i).length c') (treeAt tss i) := by
  obtain ⟨q, q', c', h1, h2, h3⟩ := x.at hi
  rw [add_head] at h1
  subst h1
  exact ⟨q', c', h2, h3⟩
theorem IsWood.len {w : World} {g n c : Nat} {tss : List (List Re)} (x : IsWood w (.slice (some ⟨g, 0, none⟩) n c) tss) : n = tss.length ∧ n ≤ c := by
  obtain ⟨p', c', hv, h1, _⟩ := x
  simp only [Value.slice.injEq] at hv
  omega
/-- What the law keeps: the trees that were drawn, those that the program answered, the tap's box. -/
structure LT (w : World) (gw c0 n : Nat) (tss : List (List Re)) (gx cx : Nat) (ns : List (List Re)) (gb : Nat) (r p q h k t : Int) (wr : World) : Prop where
  below : Below w.heap.size w wr
  l : IsWood wr (.slice (some ⟨gw, 0, none⟩) n c0) tss
  x : IsWood wr (.slice (some ⟨gx, 0, none⟩) n cx) ns
  box : Tap6 wr gb r p q h k t
theorem LT.on {w : World} {gw c0 n : Nat} {tss : List (List Re)} {gx cx : Nat} {ns : List (List Re)} {gb : Nat} {r p q h k t : Int} {wr w' : World} (x : LT w gw c0 n tss gx cx ns gb r p q h k t wr) (hb : Below wr.heap.size wr w') : LT w gw c0 n tss gx cx ns gb r p q h k t w' := ⟨below_more x.below hb, x.l.on hb, x.x.on hb, x.box.on hb⟩
theorem sameTree_len (v u : Value) (ts : List Re) (w : World) (hx : IsTree w v ts) (hy : IsTree w u ts) (hn : ts.length ≤ 5) :
    Calls Tryd.prog 8 #[v, u] w fun e w' => e = .returned (.bool true) ∧ Below w.heap.size w w' := sameTree_any v u ts w hx hy (by omega)
set_option maxRecDepth 100000 in
set_option maxHeartbeats 16000000 in
theorem lawTaps_small (w : World) (ad : Option Addr) (len cap : Nat) (cb : Nat → Nat) (hc : Code0 w ad len cb) (hse : Sent w) :
    Calls Tryd.prog 3 #[.slice ad len cap] w fun e w' => e = .returned (.bool true) ∧ Below w.heap.size w w' := by
  have CB := big_no w ad len cap (by have := hc.small; omega)
  have CD := drawTapMove_any w ad len cap cb hc
  have HSE : Hid (Sent w) := hse
  clear hc hse
  go_enter Tryd.func3, Tryd.ntmps3
  go_wp2_with fail
  refine CB.mono ?_
  rintro r0 w0 ⟨rfl, rfl⟩
  clear CB
  go_wp2_with fail
  refine CD.mono ?_
  rintro r0 w1 ⟨gw, c0, tss, P, r, p, q, h, k, t, rfl, hl4, hl5, ho, hb⟩
  clear CD
  obtain ⟨n, hn⟩ : ∃ n, n = tss.length := ⟨_, rfl⟩
  have hw := ho.wood n hn.symm
  rw [← hn] at hl4 ⊢
  have HB1 : Hid (Below w.heap.size w (w1.alloc (boxT r p q h k t))) := below_more hb (below_alloc w1 _)
  have HL1 : Hid (IsWood (w1.alloc (boxT r p q h k t)) (.slice (some ⟨gw, 0, none⟩) n c0) tss) := hw.on (below_alloc w1 _)
  have HX1 : Hid (Tap6 (w1.alloc (boxT r p q h k t)) w1.heap.size r p q h k t) := ⟨heap_alloc_new w1 _⟩
  have HNL : Hid (n = tss.length ∧ n ≤ 4 ∧ ∀ i, (treeAt tss i).length ≤ 5) := ⟨hn, hl4, hl5⟩
  have HTOLD := hid_of (taps_told tss P r p q h k t)
  obtain ⟨ns, hns⟩ : ∃ x, x = moveOf tss P r p q h k t := ⟨_, rfl⟩
  obtain ⟨M, hM⟩ : ∃ x, x = moveM tss P r p q h k t := ⟨_, rfl⟩
  have HNS : Hid (ns.length = n) := by show ns.length = n; rw [hns, moveOf_length, hn]
  have CI : Hid (∀ w', IsWood w' (.slice (some ⟨gw, 0, none⟩) n c0) tss → Sent w' → Calls Tryd.prog 6 #[.slice (some ⟨gw, 0, none⟩) n c0, .int .i64 P, tapV r p q h k t] w' fun e w'' => ∃ g c, e = .returned (.tuple #[.slice (some ⟨g, 0, none⟩) n c, .int .i64 M]) ∧ OwnWs g c ns w'.heap.size w''.heap.size w'' ∧ Below w'.heap.size w' w'') := fun w' hi hs => by
    refine (implMove_any _ n c0 tss P r p q h k t w' hi hn hi.len.2 (by omega) (fun i => by have := hl5 i; omega) hs).mono ?_
    rintro e w'' ⟨g, c', fs, rest, rfl, h1, h2, h3⟩
    rw [← hns] at h1 ⊢
    rw [← hM, HNS.out]
    exact ⟨g, c', rfl, ⟨fs, rest, h1, h2⟩, h3⟩
  have CS : Hid (∀ w', IsWood w' (.slice (some ⟨gw, 0, none⟩) n c0) tss → Calls Tryd.prog 7 #[.slice (some ⟨gw, 0, none⟩) n c0, .int .i64 P, tapV r p q h k t] w' fun e w'' => ∃ g c, e = .returned (.tuple #[.slice (some ⟨g, 0, none⟩) n c, .int .i64 M]) ∧ OwnWs g c ns w'.heap.size w''.heap.size w'' ∧ Below w'.heap.size w' w'') := fun w' hi => by
    refine (specMove_any _ n c0 tss P r p q h k t w' hi hn hi.len.2 (by omega) (fun i => by have := hl5 i; omega)).mono ?_
    rintro e w'' ⟨g, c', fs, rest, rfl, h1, h2, h3⟩
    rw [← hns] at h1 ⊢
    rw [← hM, HNS.out]
    exact ⟨g, c', rfl, ⟨fs, rest, h1, h2⟩, h3⟩
  rw [← hns, ← hM] at HTOLD
  clear hn hw hl4 hl5 ho hb hns hM
  obtain ⟨gb, hgb⟩ : ∃ g, g = w1.heap.size := ⟨_, rfl⟩
  have t0 := HX1.out.c0
  have t1 := HX1.out.c1
  have t2 := HX1.out.c2
  have t3 := HX1.out.c3
  have t4 := HX1.out.c4
  have t5 := HX1.out.c5
  go_wp2_with fail
  obtain ⟨v1, hv1⟩ : ∃ v, v = w1.alloc (boxT r p q h k t) := ⟨_, rfl⟩
  rw [← hv1] at HB1 HL1 HX1 ⊢
  rw [← hgb] at HX1 ⊢
  clear hv1 hgb t0 t1 t2 t3 t4 t5
  refine (CI.out _ HL1.out (HSE.out.on HB1.out)).mono ?_
  rintro e w2 ⟨gx, cx, rfl, ho, hb⟩
  have HL2 : Hid (LT w gw c0 n tss gx cx ns gb r p q h k t w2) := ⟨below_more HB1.out hb, HL1.out.on hb, ho.wood n HNS.out, HX1.out.on hb⟩
  clear HB1 HL1 HX1 CI HSE ho hb
  have t0 := HL2.out.box.c0
  have t1 := HL2.out.box.c1
  have t2 := HL2.out.box.c2
  have t3 := HL2.out.box.c3
  have t4 := HL2.out.box.c4
  have t5 := HL2.out.box.c5
  go_wp2_with fail
  refine (CS.out _ HL2.out.l).mono ?_
  rintro e w3 ⟨gy, cy, rfl, ho, hb⟩
  have HL3 := hid_of (HL2.out.on hb)
  clear HL2 CS ho hb t0 t1 t2 t3 t4 t5
  have hne : (M != M) = false := by simp
  have hnn : ((n : Int) != (n : Int)) = false := by simp
  have hn4 : n ≤ 4 := HNL.out.2.1
  rcases HTOLD.out with ⟨hM0, hns⟩ | ⟨m, rn, pn, rfl, rfl, rfl, hM0, hm, hp, hr5, h3, hok, hsame, hsum, hhad, hrate, hflow⟩
  · clear HTOLD
    subst hM0
    subst hns
    go_wp2
    go_loopw [10] (fun j wr => ∃ i : Nat, i ≤ n ∧ j = .int .i64 i ∧ Hid (LT w gw c0 n ns gx cx ns gb r p q h k t wr)) (fun j _ => n - (intOf j).toNat)
    case atStart => exact ⟨0, Nat.zero_le _, rfl, HL3⟩
    case round =>
      obtain ⟨i, hi, rfl, hL⟩ := hrel
      clear HL3
      by_cases hlt : i < n
      · have hit : i < ns.length := by rw [HNS.out]; exact hlt
        obtain ⟨qx, xc, hc1, hu1⟩ := hL.out.x.cellAt hit
        obtain ⟨ql, lc, hc2, hu2⟩ := hL.out.l.cellAt hit
        have HIN : Hid (i < n ∧ n ≤ cx ∧ n ≤ c0) := ⟨hlt, hL.out.x.len.2, hL.out.l.len.2⟩
        have h5 := HNL.out.2.2 i
        have HCE : Hid ((∀ w', Below wr.heap.size wr w' → w'.cell? ⟨gx, i, none⟩ = some (.slice (some qx) (treeAt ns i).length xc)) ∧ (∀ w', Below wr.heap.size wr w' → w'.cell? ⟨gw, i, none⟩ = some (.slice (some ql) (treeAt ns i).length lc)) ∧ ∀ w', Below wr.heap.size wr w' → Calls Tryd.prog 8 #[.slice (some qx) (treeAt ns i).length xc, .slice (some ql) (treeAt ns i).length lc] w' fun e w'' => e = .returned (.bool true) ∧ Below w'.heap.size w' w'') :=
          ⟨fun w' hb => (hb.cell (World.block_lt_of_cell? wr _ hc1)).trans hc1, fun w' hb => (hb.cell (World.block_lt_of_cell? wr _ hc2)).trans hc2, fun w' hb => sameTree_len _ _ (treeAt ns i) w' (hu1.on hb) (hu2.on hb) h5⟩
        generalize (treeAt ns i).length = m5 at HCE
        clear hc1 hu1 hc2 hu2 h5 hit
        go_wp2_with fail
        refine wp_region_whole (by kernel_rfl) (by kernel_rfl) (by kernel_rfl) (by kernel_rfl) (Flat (fun wz => LT w gw c0 n ns gx cx ns gb r p q h k t wz ∧ Below wr.heap.size wr wz) (gVals [.slice (some ⟨gx, 0, none⟩) n cx, .int .i64 (i : Int), .pointer (some ⟨gx, i, none⟩), .pointer (some ⟨gx, i, none⟩), .slice (some qx) m5 xc, .slice (some ⟨gw, 0, none⟩) n c0, .int .i64 (i : Int), .pointer (some ⟨gw, i, none⟩), .pointer (some ⟨gw, i, none⟩), .slice (some ql) m5 lc, .bool true, .bool false])) (flat_start ⟨hL.out.on (below_draw wr), below_draw wr⟩) ?_ ?_
        · refine ⟨?_, ?_, ?_, ?_, ?_, ?_, ?_, ?_, ?_, ?_, ?_, ?_, trivial⟩
          · intro b0 us wz L hslot hoth hLi hR hcl hdo K hK
            have s6 : b0.tmps.getD 6 undef = .slice (some ⟨gx, 0, none⟩) n cx := hoth 6 (by rfl)
            clear hslot hoth hdo hcl hLi
            refine guard_none (by rfl) ?_
            go_simp
            exact hK _ _ (flat_mark (hR.1) (fun _ _ h => h) hR.2 rfl)
          · intro b0 us wz L hslot hoth hLi hR hcl hdo K hK
            have s10 : b0.tmps.getD 10 undef = .int .i64 (i : Int) := hoth 10 (by rfl)
            clear hslot hoth hdo hcl hLi
            refine guard_none (by rfl) ?_
            go_simp
            exact hK _ _ (flat_mark (hR.1) (fun _ _ h => h) hR.2 rfl)
          · intro b0 us wz L hslot hoth hLi hR hcl hdo K hK
            have s57 : b0.tmps.getD 57 undef = .slice (some ⟨gx, 0, none⟩) n cx := (hslot 0 57 (by rfl)).trans (hR.2 0 (done_at hdo 0 (by rfl)))
            have s58 : b0.tmps.getD 58 undef = .int .i64 (i : Int) := (hslot 1 58 (by rfl)).trans (hR.2 1 (done_at hdo 1 (by rfl)))
            have hin : i < n := HIN.out.1
            have hcx : n ≤ cx := HIN.out.2.1
            clear hslot hoth hdo hcl hLi
            refine guard_none (by rfl) ?_
            go_simp
            exact hK _ _ (flat_mark (hR.1) (fun _ _ h => h) hR.2 rfl)
          · intro b0 us wz L hslot hoth hLi hR hcl hdo K hK
            have s59 : b0.tmps.getD 59 undef = .pointer (some ⟨gx, i, none⟩) := (hslot 2 59 (by rfl)).trans (hR.2 2 (done_at hdo 2 (by rfl)))
            clear hslot hoth hdo hcl hLi
            refine guard_none (by rfl) ?_
            go_simp
            exact hK _ _ (flat_mark (hR.1) (fun _ _ h => h) hR.2 rfl)
          · intro b0 us wz L hslot hoth hLi hR hcl hdo K hK
            have s60 : b0.tmps.getD 60 undef = .pointer (some ⟨gx, i, none⟩) := (hslot 3 60 (by rfl)).trans (hR.2 3 (done_at hdo 3 (by rfl)))
            have hc := HCE.out.1 wz hR.1.2
            clear hslot hoth hdo hcl hLi
            refine guard_none (by rfl) ?_
            go_simp
            exact hK _ _ (flat_mark (hR.1) (fun _ _ h => h) hR.2 rfl)
          · intro b0 us wz L hslot hoth hLi hR hcl hdo K hK
            have s3 : b0.tmps.getD 3 undef = .slice (some ⟨gw, 0, none⟩) n c0 := hoth 3 (by rfl)
            clear hslot hoth hdo hcl hLi
            refine guard_none (by rfl) ?_
            go_simp
            exact hK _ _ (flat_mark (hR.1) (fun _ _ h => h) hR.2 rfl)
          · intro b0 us wz L hslot hoth hLi hR hcl hdo K hK
            have s10 : b0.tmps.getD 10 undef = .int .i64 (i : Int) := hoth 10 (by rfl)
            clear hslot hoth hdo hcl hLi
            refine guard_none (by rfl) ?_
            go_simp
            exact hK _ _ (flat_mark (hR.1) (fun _ _ h => h) hR.2 rfl)
          · intro b0 us wz L hslot hoth hLi hR hcl hdo K hK
            have s62 : b0.tmps.getD 62 undef = .slice (some ⟨gw, 0, none⟩) n c0 := (hslot 5 62 (by rfl)).trans (hR.2 5 (done_at hdo 5 (by rfl)))
            have s63 : b0.tmps.getD 63 undef = .int .i64 (i : Int) := (hslot 6 63 (by rfl)).trans (hR.2 6 (done_at hdo 6 (by rfl)))
            have hin : i < n := HIN.out.1
            have hcl : n ≤ c0 := HIN.out.2.2
            clear hslot hoth hdo hcl hLi
            refine guard_none (by rfl) ?_
            go_simp
            exact hK _ _ (flat_mark (hR.1) (fun _ _ h => h) hR.2 rfl)
          · intro b0 us wz L hslot hoth hLi hR hcl hdo K hK
            have s64 : b0.tmps.getD 64 undef = .pointer (some ⟨gw, i, none⟩) := (hslot 7 64 (by rfl)).trans (hR.2 7 (done_at hdo 7 (by rfl)))
            clear hslot hoth hdo hcl hLi
            refine guard_none (by rfl) ?_
            go_simp
            exact hK _ _ (flat_mark (hR.1) (fun _ _ h => h) hR.2 rfl)
          · intro b0 us wz L hslot hoth hLi hR hcl hdo K hK
            have s65 : b0.tmps.getD 65 undef = .pointer (some ⟨gw, i, none⟩) := (hslot 8 65 (by rfl)).trans (hR.2 8 (done_at hdo 8 (by rfl)))
            have hc := HCE.out.2.1 wz hR.1.2
            clear hslot hoth hdo hcl hLi
            refine guard_none (by rfl) ?_
            go_simp
            exact hK _ _ (flat_mark (hR.1) (fun _ _ h => h) hR.2 rfl)
          · intro b0 us wz L hslot hoth hLi hR hcl hdo K hK
            have s61 : b0.tmps.getD 61 undef = .slice (some qx) m5 xc := (hslot 4 61 (by rfl)).trans (hR.2 4 (done_at hdo 4 (by rfl)))
            have s66 : b0.tmps.getD 66 undef = .slice (some ql) m5 lc := (hslot 9 66 (by rfl)).trans (hR.2 9 (done_at hdo 9 (by rfl)))
            clear hslot hoth hdo hcl hLi
            refine guard_none (by rfl) ?_
            go_simp
            refine (HCE.out.2.2 wz hR.1.2).mono ?_
            rintro e w' ⟨rfl, hb⟩
            exact hK _ _ (flat_mark ⟨hR.1.1.on hb, below_more hR.1.2 hb⟩ (fun _ _ h => h) hR.2 rfl)
          · intro b0 us wz L hslot hoth hLi hR hcl hdo K hK
            have s67 : b0.tmps.getD 67 undef = .bool true := (hslot 10 67 (by rfl)).trans (hR.2 10 (done_at hdo 10 (by rfl)))
            clear hslot hoth hdo hcl hLi
            refine guard_none (by rfl) ?_
            go_simp
            exact hK _ _ (flat_mark (hR.1) (fun _ _ h => h) hR.2 rfl)
        · intro us wn L hall hR a' ha'
          have g11 : us 11 = .bool false := hR.2 11 (hall 11 (by decide))
          have HLN := hid_of hR.1.1
          clear hR hall
          simp only [putAll, g11] at ha'
          subst ha'
          go_frame
          go_wp2
          go_roundw
          case rel => exact ⟨i + 1, by omega, by go_num, HLN⟩
          case measure => simp [intOf]; omega
      · obtain rfl : i = n := by omega
        go_wp2
        go_ret
        exact ⟨rfl, hL.out.below⟩
  · clear HTOLD
    have hnl := HNL.out.1
    have hmt := hm
    rw [← hnl] at hm hp h3 hok hsum
    have H5 : Hid (∀ i, i < n → (treeAt tss i).length = 5 ∧ treeOk (treeAt ns i) = true) := hok
    have HSAME : Hid (∀ i, i ≠ m → i ≠ pn → treeAt ns i = treeAt tss i) := hsame
    obtain ⟨ql, lc, hc2, hu2⟩ := HL3.out.l.cellAt hmt
    have h5 := (H5.out m hm).1
    rw [h5] at hc2 hu2
    have HIN : Hid (m < n ∧ n ≤ cx ∧ n ≤ c0) := ⟨hm, HL3.out.x.len.2, HL3.out.l.len.2⟩
    obtain ⟨q', qr, hqq, hqr, hcc⟩ := hu2.at (i := rn) (by omega)
    cases hqq
    have hlc : 5 ≤ lc := by
      obtain ⟨a', cap', hv, hc', _⟩ := hu2
      simp only [Value.slice.injEq] at hv
      omega
    obtain ⟨re, hre⟩ : ∃ x, x = reAt (treeAt tss m) rn := ⟨_, rfl⟩
    rw [← hre] at hhad hflow hcc
    obtain ⟨l1, p1, ra, rb, rc⟩ := re
    simp only at hhad hflow
    have HCE : Hid ((∀ w', Below w3.heap.size w3 w' → w'.cell? ⟨gw, m, none⟩ = some (.slice (some ql) 5 lc)) ∧ ∀ w', Below w3.heap.size w3 w' → Cells5 w' qr ⟨l1, p1, ra, rb, rc⟩) :=
      ⟨fun w' hb => (hb.cell (World.block_lt_of_cell? w3 _ hc2)).trans hc2, fun w' hb => hcc.on hb⟩
    have HR5 : Hid (rn < 5 ∧ ql.add (rn * 5) = qr ∧ 5 ≤ lc) := ⟨hr5, hqr, hlc⟩
    obtain ⟨HD, hHD⟩ : ∃ x, x = partOf h ra rb rc := ⟨_, rfl⟩
    have CH : Hid (∀ w', Calls Tryd.prog 9 #[amt ra rb rc, .int .i64 h] w' fun e w'' => e = .returned (.int .i64 HD) ∧ Below w'.heap.size w' w'') := fun w' => by rw [hHD]; exact specPart_b ra rb rc h w'
    have CF : Hid (∀ w', Calls Tryd.prog 13 #[tapV (rn : Int) (pn : Int) q h k t, amt ra rb rc] w' fun e w'' => e = .returned (.int .i64 M) ∧ Below w'.heap.size w' w'') := fun w' => by rw [hflow]; exact implFlow_any rn pn q h k t ra rb rc w'
    have HMF : Hid (M ≤ HD ∧ (k = 1 → M ≤ t)) := ⟨by rw [hHD]; exact hhad, hrate⟩
    have hmin : min n 3 = n := by omega
    obtain ⟨SA, hSA⟩ : ∃ x, x = sumW Re.a tss n := ⟨_, rfl⟩
    obtain ⟨SB, hSB⟩ : ∃ x, x = sumW Re.b tss n := ⟨_, rfl⟩
    obtain ⟨SC, hSC⟩ : ∃ x, x = sumW Re.c tss n := ⟨_, rfl⟩
    have hlen5 : ∀ i, (treeAt tss i).length ≤ 1048576 := fun i => by have := HNL.out.2.2 i; omega
    have hlen5' : ∀ i, (treeAt ns i).length ≤ 1048576 := fun i => by
      by_cases hi : i < n
      · have := treeOk_five (H5.out i hi).2; omega
      · have := HNS.out
        simp [treeAt, List.getD, List.getElem?_eq_none (by omega : ns.length ≤ i)]
    have CIS : Hid (∀ w', IsWood w' (.slice (some ⟨gx, 0, none⟩) n cx) ns → Calls Tryd.prog 11 #[.slice (some ⟨gx, 0, none⟩) n cx] w' fun e w'' => e = .returned (amt SA SB SC) ∧ Below w'.heap.size w' w'') := fun w' hi => by
      have e := implTreesSum_any _ ns w' hi (by have := HNS.out; omega) hlen5'
      rw [HNS.out, hmin, hsum.1, hsum.2.1, hsum.2.2, ← hSA, ← hSB, ← hSC] at e
      exact e
    have CSS : Hid (∀ w', IsWood w' (.slice (some ⟨gw, 0, none⟩) n c0) tss → Calls Tryd.prog 12 #[.slice (some ⟨gw, 0, none⟩) n c0] w' fun e w'' => e = .returned (amt SA SB SC) ∧ Below w'.heap.size w' w'') := fun w' hi => by
      have e := specTreesSum_any _ tss w' hi.trees (by omega) hlen5
      rw [← hnl, hmin, ← hSA, ← hSB, ← hSC] at e
      exact e
    have HB3 := hid_of HL3.out.below
    have HL4 : Hid (LT w3 gw c0 n tss gx cx ns gb (rn : Int) (pn : Int) q h k t w3) := ⟨Below.refl _ _, HL3.out.l, HL3.out.x, HL3.out.box⟩
    have HPN : Hid (pn < n) := hp
    have hM1 : ¬ (M < 0) := by omega
    have hM2 : ¬ (M = 0) := by omega
    clear hnl hmt hm hp h3 hok hsame hsum hc2 hu2 h5 hqr hcc hlc hre hhad hflow hHD hrate hmin hSA hSB hSC hlen5 hlen5' HL3 hM0 hr5
    go_wp2_with fail
    refine wp_region_whole (by kernel_rfl) (by kernel_rfl) (by kernel_rfl) (by kernel_rfl) (Flat (fun wz => LT w3 gw c0 n tss gx cx ns gb (rn : Int) (pn : Int) q h k t wz) (gVals [.slice (some ⟨gw, 0, none⟩) n c0, .int .i64 (m : Int), .pointer (some ⟨gw, m, none⟩), .pointer (some ⟨gw, m, none⟩), .slice (some ql) 5 lc, .pointer (some ⟨gb, 0, none⟩), .int .i64 (rn : Int), .pointer (some qr), .pointer (some ⟨qr.block, qr.off + 2, none⟩), amt ra rb rc, .pointer (some ⟨gb, 3, none⟩), .int .i64 h, .int .i64 HD, .int .i64 HD])) (flat_start (HL4.out.on (below_draw _))) ?_ ?_
    · refine ⟨?_, ?_, ?_, ?_, ?_, ?_, ?_, ?_, ?_, ?_, ?_, ?_, ?_, ?_, trivial⟩
      · intro b0 us wz L hslot hoth hLi hR hcl hdo K hK
        have s3 : b0.tmps.getD 3 undef = .slice (some ⟨gw, 0, none⟩) n c0 := hoth 3 (by rfl)
        clear hslot hoth hdo hcl hLi
        refine guard_none (by rfl) ?_
        go_simp
        exact hK _ _ (flat_mark (hR.1) (fun _ _ h => h) hR.2 rfl)
      · intro b0 us wz L hslot hoth hLi hR hcl hdo K hK
        have s4 : b0.tmps.getD 4 undef = .int .i64 (m : Int) := hoth 4 (by rfl)
        clear hslot hoth hdo hcl hLi
        refine guard_none (by rfl) ?_
        go_simp
        exact hK _ _ (flat_mark (hR.1) (fun _ _ h => h) hR.2 rfl)
      · intro b0 us wz L hslot hoth hLi hR hcl hdo K hK
        have s69 : b0.tmps.getD 69 undef = .slice (some ⟨gw, 0, none⟩) n c0 := (hslot 0 69 (by rfl)).trans (hR.2 0 (done_at hdo 0 (by rfl)))
        have s70 : b0.tmps.getD 70 undef = .int .i64 (m : Int) := (hslot 1 70 (by rfl)).trans (hR.2 1 (done_at hdo 1 (by rfl)))
        have hin : m < n := HIN.out.1
        have hcl : n ≤ c0 := HIN.out.2.2
        clear hslot hoth hdo hcl hLi
        refine guard_none (by rfl) ?_
        go_simp
        exact hK _ _ (flat_mark (hR.1) (fun _ _ h => h) hR.2 rfl)
      · intro b0 us wz L hslot hoth hLi hR hcl hdo K hK
        have s71 : b0.tmps.getD 71 undef = .pointer (some ⟨gw, m, none⟩) := (hslot 2 71 (by rfl)).trans (hR.2 2 (done_at hdo 2 (by rfl)))
        clear hslot hoth hdo hcl hLi
        refine guard_none (by rfl) ?_
        go_simp
        exact hK _ _ (flat_mark (hR.1) (fun _ _ h => h) hR.2 rfl)
      · intro b0 us wz L hslot hoth hLi hR hcl hdo K hK
        have s72 : b0.tmps.getD 72 undef = .pointer (some ⟨gw, m, none⟩) := (hslot 3 72 (by rfl)).trans (hR.2 3 (done_at hdo 3 (by rfl)))
        have hc := HCE.out.1 wz hR.1.below
        clear hslot hoth hdo hcl hLi
        refine guard_none (by rfl) ?_
        go_simp
        exact hK _ _ (flat_mark (hR.1) (fun _ _ h => h) hR.2 rfl)
      · intro b0 us wz L hslot hoth hLi hR hcl hdo K hK
        have s5 : b0.tmps.getD 5 undef = .pointer (some ⟨gb, 0, none⟩) := hoth 5 (by rfl)
        clear hslot hoth hdo hcl hLi
        refine guard_none (by rfl) ?_
        go_simp
        exact hK _ _ (flat_mark (hR.1) (fun _ _ h => h) hR.2 rfl)
      · intro b0 us wz L hslot hoth hLi hR hcl hdo K hK
        have s74 : b0.tmps.getD 74 undef = .pointer (some ⟨gb, 0, none⟩) := (hslot 5 74 (by rfl)).trans (hR.2 5 (done_at hdo 5 (by rfl)))
        have t0 := (hR.1.box).c0
        have t1 := (hR.1.box).c1
        have t2 := (hR.1.box).c2
        have t3 := (hR.1.box).c3
        have t4 := (hR.1.box).c4
        have t5 := (hR.1.box).c5
        clear hslot hoth hdo hcl hLi
        refine guard_none (by rfl) ?_
        go_simp
        exact hK _ _ (flat_mark (hR.1) (fun _ _ h => h) hR.2 rfl)
      · intro b0 us wz L hslot hoth hLi hR hcl hdo K hK
        have s73 : b0.tmps.getD 73 undef = .slice (some ql) 5 lc := (hslot 4 73 (by rfl)).trans (hR.2 4 (done_at hdo 4 (by rfl)))
        have s75 : b0.tmps.getD 75 undef = .int .i64 (rn : Int) := (hslot 6 75 (by rfl)).trans (hR.2 6 (done_at hdo 6 (by rfl)))
        have hr5 : rn < 5 := HR5.out.1
        have hri : (rn : Int) < 5 := by omega
        have hqr : ql.add (rn * 5) = qr := HR5.out.2.1
        have hqc : 5 ≤ lc := HR5.out.2.2
        clear hslot hoth hdo hcl hLi
        refine guard_none (by rfl) ?_
        go_simp
        exact hK _ _ (flat_mark (hR.1) (fun _ _ h => h) hR.2 rfl)
      · intro b0 us wz L hslot hoth hLi hR hcl hdo K hK
        have s76 : b0.tmps.getD 76 undef = .pointer (some qr) := (hslot 7 76 (by rfl)).trans (hR.2 7 (done_at hdo 7 (by rfl)))
        clear hslot hoth hdo hcl hLi
        refine guard_none (by rfl) ?_
        go_simp
        exact hK _ _ (flat_mark (hR.1) (fun _ _ h => h) hR.2 rfl)
      · intro b0 us wz L hslot hoth hLi hR hcl hdo K hK
        have s77 : b0.tmps.getD 77 undef = .pointer (some ⟨qr.block, qr.off + 2, none⟩) := (hslot 8 77 (by rfl)).trans (hR.2 8 (done_at hdo 8 (by rfl)))
        have cc := HCE.out.2 _ hR.1.below
        have k2 := cc.c2
        have k3 := cc.c3
        have k4 := cc.c4
        simp only at k2 k3 k4
        clear cc
        clear hslot hoth hdo hcl hLi
        refine guard_none (by rfl) ?_
        go_simp
        exact hK _ _ (flat_mark (hR.1) (fun _ _ h => h) hR.2 rfl)
      · intro b0 us wz L hslot hoth hLi hR hcl hdo K hK
        have s5 : b0.tmps.getD 5 undef = .pointer (some ⟨gb, 0, none⟩) := hoth 5 (by rfl)
        clear hslot hoth hdo hcl hLi
        refine guard_none (by rfl) ?_
        go_simp
        exact hK _ _ (flat_mark (hR.1) (fun _ _ h => h) hR.2 rfl)
      · intro b0 us wz L hslot hoth hLi hR hcl hdo K hK
        have s79 : b0.tmps.getD 79 undef = .pointer (some ⟨gb, 3, none⟩) := (hslot 10 79 (by rfl)).trans (hR.2 10 (done_at hdo 10 (by rfl)))
        have t0 := (hR.1.box).c0
        have t1 := (hR.1.box).c1
        have t2 := (hR.1.box).c2
        have t3 := (hR.1.box).c3
        have t4 := (hR.1.box).c4
        have t5 := (hR.1.box).c5
        clear hslot hoth hdo hcl hLi
        refine guard_none (by rfl) ?_
        go_simp
        exact hK _ _ (flat_mark (hR.1) (fun _ _ h => h) hR.2 rfl)
      · intro b0 us wz L hslot hoth hLi hR hcl hdo K hK
        have s78 : b0.tmps.getD 78 undef = amt ra rb rc := (hslot 9 78 (by rfl)).trans (hR.2 9 (done_at hdo 9 (by rfl)))
        have s80 : b0.tmps.getD 80 undef = .int .i64 h := (hslot 11 80 (by rfl)).trans (hR.2 11 (done_at hdo 11 (by rfl)))
        clear hslot hoth hdo hcl hLi
        refine guard_none (by rfl) ?_
        go_simp
        refine (CH.out wz).mono ?_
        rintro e w' ⟨rfl, hb⟩
        exact hK _ _ (flat_mark (hR.1.on hb) (fun _ _ h => h) hR.2 rfl)
      · intro b0 us wz L hslot hoth hLi hR hcl hdo K hK
        have s81 : b0.tmps.getD 81 undef = .int .i64 HD := (hslot 12 81 (by rfl)).trans (hR.2 12 (done_at hdo 12 (by rfl)))
        clear hslot hoth hdo hcl hLi
        refine guard_none (by rfl) ?_
        go_simp
        exact hK _ _ (flat_mark (hR.1) (fun _ _ h => h) hR.2 rfl)
    · intro us wn L hall hR a' ha'
      have g13 : us 13 = .int .i64 HD := hR.2 13 (hall 13 (by decide))
      have HL5 := hid_of hR.1
      clear hR hall
      simp only [putAll, g13] at ha'
      subst ha'
      go_frame
      clear HL4 CH
      go_wp2
      go_loopw [12] (fun j wr => ∃ i : Nat, i ≤ n ∧ j = .int .i64 i ∧ Hid (LT w3 gw c0 n tss gx cx ns gb (rn : Int) (pn : Int) q h k t wr)) (fun j _ => n - (intOf j).toNat)
      case atStart => exact ⟨0, Nat.zero_le _, rfl, HL5⟩
      case round =>
        obtain ⟨i, hi, rfl, hL⟩ := hrel
        clear HL5
        by_cases hlt : i < n
        · have hit : i < ns.length := by rw [HNS.out]; exact hlt
          have hit2 : i < tss.length := by have := HNL.out.1; omega
          obtain ⟨qx, xc, hc1, hu1⟩ := hL.out.x.cellAt hit
          obtain ⟨qi, ic, hc2, hu2⟩ := hL.out.l.cellAt hit2
          have hok := H5.out i hlt
          have hx5 := treeOk_five hok.2
          rw [hx5] at hc1 hu1
          rw [hok.1] at hc2 hu2
          have HIX : Hid (i < n ∧ n ≤ cx ∧ n ≤ c0) := ⟨hlt, hL.out.x.len.2, hL.out.l.len.2⟩
          have HCI : Hid ((∀ w', Below wr.heap.size wr w' → w'.cell? ⟨gx, i, none⟩ = some (.slice (some qx) 5 xc)) ∧ (∀ w', Below wr.heap.size wr w' → Calls Tryd.prog 10 #[.slice (some qx) 5 xc] w' fun e w'' => e = .returned (.bool true) ∧ Below w'.heap.size w' w'') ∧ (∀ w', Below wr.heap.size wr w' → w'.cell? ⟨gw, i, none⟩ = some (.slice (some qi) 5 ic)) ∧ (i ≠ m ∧ i ≠ pn → ∀ w', Below wr.heap.size wr w' → Calls Tryd.prog 8 #[.slice (some qx) 5 xc, .slice (some qi) 5 ic] w' fun e w'' => e = .returned (.bool true) ∧ Below w'.heap.size w' w'')) := by
            refine ⟨fun w' hb => (hb.cell (World.block_lt_of_cell? wr _ hc1)).trans hc1, fun w' hb => ?_, fun w' hb => (hb.cell (World.block_lt_of_cell? wr _ hc2)).trans hc2, fun he w' hb => ?_⟩
            · have e := specOk_any _ (treeAt ns i) w' (hu1.on hb) (by omega)
              rw [hok.2] at e
              exact e
            · have e := HSAME.out i he.1 he.2
              rw [e] at hu1
              exact sameTree_len _ _ (treeAt tss i) w' (hu1.on hb) (hu2.on hb) (by omega)
          clear hc1 hu1 hc2 hu2 hok hx5 hit hit2
          go_wp2_with fail
          obtain ⟨l, HL⟩ : ∃ l, Hid ((l = [.int .i64 (i : Int), .int .i64 (m : Int), .bool false, .bool false, undef, undef, undef, undef, .bool false, .bool false, undef, undef, undef, undef, undef, undef, undef, undef, undef, undef, undef, undef, .bool false, .bool false, .slice (some ⟨gx, 0, none⟩) n cx, .int .i64 (i : Int), .pointer (some ⟨gx, i, none⟩), .pointer (some ⟨gx, i, none⟩), .slice (some qx) 5 xc, .bool true, .bool false, .bool false] ∧ Hid (i = m)) ∨ (l = [.int .i64 (i : Int), .int .i64 (m : Int), .bool true, .bool true, .int .i64 (i : Int), .pointer (some ⟨gb, 1, none⟩), .int .i64 (pn : Int), .bool false, .bool false, .bool false, undef, undef, undef, undef, undef, undef, undef, undef, undef, undef, undef, undef, .bool false, .bool false, .slice (some ⟨gx, 0, none⟩) n cx, .int .i64 (i : Int), .pointer (some ⟨gx, i, none⟩), .pointer (some ⟨gx, i, none⟩), .slice (some qx) 5 xc, .bool true, .bool false, .bool false] ∧ Hid (i ≠ m ∧ i = pn)) ∨ (l = [.int .i64 (i : Int), .int .i64 (m : Int), .bool true, .bool true, .int .i64 (i : Int), .pointer (some ⟨gb, 1, none⟩), .int .i64 (pn : Int), .bool true, .bool true, .bool true, .slice (some ⟨gx, 0, none⟩) n cx, .int .i64 (i : Int), .pointer (some ⟨gx, i, none⟩), .pointer (some ⟨gx, i, none⟩), .slice (some qx) 5 xc, .slice (some ⟨gw, 0, none⟩) n c0, .int .i64 (i : Int), .pointer (some ⟨gw, i, none⟩), .pointer (some ⟨gw, i, none⟩), .slice (some qi) 5 ic, .bool true, .bool false, .bool false, .bool false, .slice (some ⟨gx, 0, none⟩) n cx, .int .i64 (i : Int), .pointer (some ⟨gx, i, none⟩), .pointer (some ⟨gx, i, none⟩), .slice (some qx) 5 xc, .bool true, .bool false, .bool false] ∧ Hid (i ≠ m ∧ i ≠ pn))) := by
            by_cases h1 : i = m
            · exact ⟨_, .inl ⟨rfl, h1⟩⟩
            · by_cases h2 : i = pn
              · exact ⟨_, .inr (.inl ⟨rfl, h1, h2⟩)⟩
              · exact ⟨_, .inr (.inr ⟨rfl, h1, h2⟩)⟩
          refine wp_region_whole (by kernel_rfl) (by kernel_rfl) (by kernel_rfl) (by kernel_rfl) (Flat (fun wz => LT w3 gw c0 n tss gx cx ns gb (rn : Int) (pn : Int) q h k t wz ∧ Below wr.heap.size wr wz) (gVals l)) (flat_start ⟨hL.out.on (below_draw wr), below_draw wr⟩) ?_ ?_
          · refine ⟨?_, ?_, ?_, ?_, ?_, ?_, ?_, ?_, ?_, ?_, ?_, ?_, ?_, ?_, ?_, ?_, ?_, ?_, ?_, ?_, ?_, ?_, ?_, ?_, ?_, ?_, ?_, ?_, ?_, ?_, ?_, ?_, trivial⟩
            · intro b0 us wz L hslot hoth hLi hR hcl hdo K hK
              rcases HL.out with ⟨rfl, hf⟩ | ⟨rfl, hf⟩ | ⟨rfl, hf⟩
              · have s12 : b0.tmps.getD 12 undef = .int .i64 (i : Int) := hoth 12 (by rfl)
                clear hslot hoth hdo hcl hLi
                refine guard_none (by rfl) ?_
                go_simp
                exact hK _ _ (flat_mark (hR.1) (fun _ _ h => h) hR.2 rfl)
              · have s12 : b0.tmps.getD 12 undef = .int .i64 (i : Int) := hoth 12 (by rfl)
                clear hslot hoth hdo hcl hLi
                refine guard_none (by rfl) ?_
                go_simp
                exact hK _ _ (flat_mark (hR.1) (fun _ _ h => h) hR.2 rfl)
              · have s12 : b0.tmps.getD 12 undef = .int .i64 (i : Int) := hoth 12 (by rfl)
                clear hslot hoth hdo hcl hLi
                refine guard_none (by rfl) ?_
                go_simp
                exact hK _ _ (flat_mark (hR.1) (fun _ _ h => h) hR.2 rfl)
            · intro b0 us wz L hslot hoth hLi hR hcl hdo K hK
              rcases HL.out with ⟨rfl, hf⟩ | ⟨rfl, hf⟩ | ⟨rfl, hf⟩
              · have s4 : b0.tmps.getD 4 undef = .int .i64 (m : Int) := hoth 4 (by rfl)
                clear hslot hoth hdo hcl hLi
                refine guard_none (by rfl) ?_
                go_simp
                exact hK _ _ (flat_mark (hR.1) (fun _ _ h => h) hR.2 rfl)
              · have s4 : b0.tmps.getD 4 undef = .int .i64 (m : Int) := hoth 4 (by rfl)
                clear hslot hoth hdo hcl hLi
                refine guard_none (by rfl) ?_
                go_simp
                exact hK _ _ (flat_mark (hR.1) (fun _ _ h => h) hR.2 rfl)
              · have s4 : b0.tmps.getD 4 undef = .int .i64 (m : Int) := hoth 4 (by rfl)
                clear hslot hoth hdo hcl hLi
                refine guard_none (by rfl) ?_
                go_simp
                exact hK _ _ (flat_mark (hR.1) (fun _ _ h => h) hR.2 rfl)
            · intro b0 us wz L hslot hoth hLi hR hcl hdo K hK
              rcases HL.out with ⟨rfl, hf⟩ | ⟨rfl, hf⟩ | ⟨rfl, hf⟩
              · have s88 : b0.tmps.getD 88 undef = .int .i64 (i : Int) := (hslot 0 88 (by rfl)).trans (hR.2 0 (done_at hdo 0 (by rfl)))
                have s89 : b0.tmps.getD 89 undef = .int .i64 (m : Int) := (hslot 1 89 (by rfl)).trans (hR.2 1 (done_at hdo 1 (by rfl)))
                have hnq : ((i : Int) != (m : Int)) = false := by have := hf.out; simp; omega
                clear hslot hoth hdo hcl hLi
                refine guard_none (by rfl) ?_
                go_simp
                exact hK _ _ (flat_mark (hR.1) (fun _ _ h => h) hR.2 rfl)
              · have s88 : b0.tmps.getD 88 undef = .int .i64 (i : Int) := (hslot 0 88 (by rfl)).trans (hR.2 0 (done_at hdo 0 (by rfl)))
                have s89 : b0.tmps.getD 89 undef = .int .i64 (m : Int) := (hslot 1 89 (by rfl)).trans (hR.2 1 (done_at hdo 1 (by rfl)))
                have hnq : ((i : Int) != (m : Int)) = true := by have := hf.out; simp; omega
                clear hslot hoth hdo hcl hLi
                refine guard_none (by rfl) ?_
                go_simp
                exact hK _ _ (flat_mark (hR.1) (fun _ _ h => h) hR.2 rfl)
              · have s88 : b0.tmps.getD 88 undef = .int .i64 (i : Int) := (hslot 0 88 (by rfl)).trans (hR.2 0 (done_at hdo 0 (by rfl)))
                have s89 : b0.tmps.getD 89 undef = .int .i64 (m : Int) := (hslot 1 89 (by rfl)).trans (hR.2 1 (done_at hdo 1 (by rfl)))
                have hnq : ((i : Int) != (m : Int)) = true := by have := hf.out; simp; omega
                clear hslot hoth hdo hcl hLi
                refine guard_none (by rfl) ?_
                go_simp
                exact hK _ _ (flat_mark (hR.1) (fun _ _ h => h) hR.2 rfl)
            · intro b0 us wz L hslot hoth hLi hR hcl hdo K hK
              rcases HL.out with ⟨rfl, hf⟩ | ⟨rfl, hf⟩ | ⟨rfl, hf⟩
              · have s90 : b0.tmps.getD 90 undef = .bool false := (hslot 2 90 (by rfl)).trans (hR.2 2 (done_at hdo 2 (by rfl)))
                clear hslot hoth hdo hcl hLi
                refine guard_none (by rfl) ?_
                go_simp
                exact hK _ _ (flat_mark (hR.1) (fun _ _ h => h) hR.2 rfl)
              · have s90 : b0.tmps.getD 90 undef = .bool true := (hslot 2 90 (by rfl)).trans (hR.2 2 (done_at hdo 2 (by rfl)))
                clear hslot hoth hdo hcl hLi
                refine guard_none (by rfl) ?_
                go_simp
                exact hK _ _ (flat_mark (hR.1) (fun _ _ h => h) hR.2 rfl)
              · have s90 : b0.tmps.getD 90 undef = .bool true := (hslot 2 90 (by rfl)).trans (hR.2 2 (done_at hdo 2 (by rfl)))
                clear hslot hoth hdo hcl hLi
                refine guard_none (by rfl) ?_
                go_simp
                exact hK _ _ (flat_mark (hR.1) (fun _ _ h => h) hR.2 rfl)
            · intro b0 us wz L hslot hoth hLi hR hcl hdo K hK
              rcases HL.out with ⟨rfl, hf⟩ | ⟨rfl, hf⟩ | ⟨rfl, hf⟩
              · have gg : us 3 = .bool false := hR.2 3 (done_at hdo 3 (by rfl))
                refine guard_off (j := 3) (want := true) (d := 91) (by rfl) (by rfl) gg (by rfl) ?_
                exact hK undef _ (flat_mark (hR.1) (fun _ _ h => h) hR.2 rfl)
              · have gg : us 3 = .bool true := hR.2 3 (done_at hdo 3 (by rfl))
                have s12 : b0.tmps.getD 12 undef = .int .i64 (i : Int) := hoth 12 (by rfl)
                clear hslot hoth hdo hcl hLi
                refine guard_on (j := 3) (want := true) (d := 91) (by rfl) (by rfl) gg ?_
                go_simp
                exact hK _ _ (flat_mark (hR.1) (fun _ _ h => h) hR.2 rfl)
              · have gg : us 3 = .bool true := hR.2 3 (done_at hdo 3 (by rfl))
                have s12 : b0.tmps.getD 12 undef = .int .i64 (i : Int) := hoth 12 (by rfl)
                clear hslot hoth hdo hcl hLi
                refine guard_on (j := 3) (want := true) (d := 91) (by rfl) (by rfl) gg ?_
                go_simp
                exact hK _ _ (flat_mark (hR.1) (fun _ _ h => h) hR.2 rfl)
            · intro b0 us wz L hslot hoth hLi hR hcl hdo K hK
              rcases HL.out with ⟨rfl, hf⟩ | ⟨rfl, hf⟩ | ⟨rfl, hf⟩
              · have gg : us 3 = .bool false := hR.2 3 (done_at hdo 3 (by rfl))
                refine guard_off (j := 3) (want := true) (d := 91) (by rfl) (by rfl) gg (by rfl) ?_
                exact hK undef _ (flat_mark (hR.1) (fun _ _ h => h) hR.2 rfl)
              · have gg : us 3 = .bool true := hR.2 3 (done_at hdo 3 (by rfl))
                have s5 : b0.tmps.getD 5 undef = .pointer (some ⟨gb, 0, none⟩) := hoth 5 (by rfl)
                clear hslot hoth hdo hcl hLi
                refine guard_on (j := 3) (want := true) (d := 91) (by rfl) (by rfl) gg ?_
                go_simp
                exact hK _ _ (flat_mark (hR.1) (fun _ _ h => h) hR.2 rfl)
              · have gg : us 3 = .bool true := hR.2 3 (done_at hdo 3 (by rfl))
                have s5 : b0.tmps.getD 5 undef = .pointer (some ⟨gb, 0, none⟩) := hoth 5 (by rfl)
                clear hslot hoth hdo hcl hLi
                refine guard_on (j := 3) (want := true) (d := 91) (by rfl) (by rfl) gg ?_
                go_simp
                exact hK _ _ (flat_mark (hR.1) (fun _ _ h => h) hR.2 rfl)
            · intro b0 us wz L hslot hoth hLi hR hcl hdo K hK
              rcases HL.out with ⟨rfl, hf⟩ | ⟨rfl, hf⟩ | ⟨rfl, hf⟩
              · have gg : us 3 = .bool false := hR.2 3 (done_at hdo 3 (by rfl))
                refine guard_off (j := 3) (want := true) (d := 91) (by rfl) (by rfl) gg (by rfl) ?_
                exact hK undef _ (flat_mark (hR.1) (fun _ _ h => h) hR.2 rfl)
              · have gg : us 3 = .bool true := hR.2 3 (done_at hdo 3 (by rfl))
                have s93 : b0.tmps.getD 93 undef = .pointer (some ⟨gb, 1, none⟩) := (hslot 5 93 (by rfl)).trans (hR.2 5 (done_at hdo 5 (by rfl)))
                have t0 := (hR.1.1.box).c0
                have t1 := (hR.1.1.box).c1
                have t2 := (hR.1.1.box).c2
                have t3 := (hR.1.1.box).c3
                have t4 := (hR.1.1.box).c4
                have t5 := (hR.1.1.box).c5
                clear hslot hoth hdo hcl hLi
                refine guard_on (j := 3) (want := true) (d := 91) (by rfl) (by rfl) gg ?_
                go_simp
                exact hK _ _ (flat_mark (hR.1) (fun _ _ h => h) hR.2 rfl)
              · have gg : us 3 = .bool true := hR.2 3 (done_at hdo 3 (by rfl))
                have s93 : b0.tmps.getD 93 undef = .pointer (some ⟨gb, 1, none⟩) := (hslot 5 93 (by rfl)).trans (hR.2 5 (done_at hdo 5 (by rfl)))
                have t0 := (hR.1.1.box).c0
                have t1 := (hR.1.1.box).c1
                have t2 := (hR.1.1.box).c2
                have t3 := (hR.1.1.box).c3
                have t4 := (hR.1.1.box).c4
                have t5 := (hR.1.1.box).c5
                clear hslot hoth hdo hcl hLi
                refine guard_on (j := 3) (want := true) (d := 91) (by rfl) (by rfl) gg ?_
                go_simp
                exact hK _ _ (flat_mark (hR.1) (fun _ _ h => h) hR.2 rfl)
            · intro b0 us wz L hslot hoth hLi hR hcl hdo K hK
              rcases HL.out with ⟨rfl, hf⟩ | ⟨rfl, hf⟩ | ⟨rfl, hf⟩
              · have gg : us 3 = .bool false := hR.2 3 (done_at hdo 3 (by rfl))
                refine guard_off (j := 3) (want := true) (d := 91) (by rfl) (by rfl) gg (by rfl) ?_
                exact hK undef _ (flat_mark (hR.1) (fun _ _ h => h) hR.2 rfl)
              · have gg : us 3 = .bool true := hR.2 3 (done_at hdo 3 (by rfl))
                have s92 : b0.tmps.getD 92 undef = .int .i64 (i : Int) := (hslot 4 92 (by rfl)).trans (hR.2 4 (done_at hdo 4 (by rfl)))
                have s94 : b0.tmps.getD 94 undef = .int .i64 (pn : Int) := (hslot 6 94 (by rfl)).trans (hR.2 6 (done_at hdo 6 (by rfl)))
                have hnq : ((i : Int) != (pn : Int)) = false := by have := hf.out; simp; omega
                clear hslot hoth hdo hcl hLi
                refine guard_on (j := 3) (want := true) (d := 91) (by rfl) (by rfl) gg ?_
                go_simp
                exact hK _ _ (flat_mark (hR.1) (fun _ _ h => h) hR.2 rfl)
              · have gg : us 3 = .bool true := hR.2 3 (done_at hdo 3 (by rfl))
                have s92 : b0.tmps.getD 92 undef = .int .i64 (i : Int) := (hslot 4 92 (by rfl)).trans (hR.2 4 (done_at hdo 4 (by rfl)))
                have s94 : b0.tmps.getD 94 undef = .int .i64 (pn : Int) := (hslot 6 94 (by rfl)).trans (hR.2 6 (done_at hdo 6 (by rfl)))
                have hnq : ((i : Int) != (pn : Int)) = true := by have := hf.out; simp; omega
                clear hslot hoth hdo hcl hLi
                refine guard_on (j := 3) (want := true) (d := 91) (by rfl) (by rfl) gg ?_
                go_simp
                exact hK _ _ (flat_mark (hR.1) (fun _ _ h => h) hR.2 rfl)
            · intro b0 us wz L hslot hoth hLi hR hcl hdo K hK
              rcases HL.out with ⟨rfl, hf⟩ | ⟨rfl, hf⟩ | ⟨rfl, hf⟩
              · have s91 : b0.tmps.getD 91 undef = .bool false := (hslot 3 91 (by rfl)).trans (hR.2 3 (done_at hdo 3 (by rfl)))
                have s95 : b0.tmps.getD 95 undef = undef := (hslot 7 95 (by rfl)).trans (hR.2 7 (done_at hdo 7 (by rfl)))
                clear hslot hoth hdo hcl hLi
                refine guard_none (by rfl) ?_
                go_simp
                exact hK _ _ (flat_mark (hR.1) (fun _ _ h => h) hR.2 rfl)
              · have s91 : b0.tmps.getD 91 undef = .bool true := (hslot 3 91 (by rfl)).trans (hR.2 3 (done_at hdo 3 (by rfl)))
                have s95 : b0.tmps.getD 95 undef = .bool false := (hslot 7 95 (by rfl)).trans (hR.2 7 (done_at hdo 7 (by rfl)))
                clear hslot hoth hdo hcl hLi
                refine guard_none (by rfl) ?_
                go_simp
                exact hK _ _ (flat_mark (hR.1) (fun _ _ h => h) hR.2 rfl)
              · have s91 : b0.tmps.getD 91 undef = .bool true := (hslot 3 91 (by rfl)).trans (hR.2 3 (done_at hdo 3 (by rfl)))
                have s95 : b0.tmps.getD 95 undef = .bool true := (hslot 7 95 (by rfl)).trans (hR.2 7 (done_at hdo 7 (by rfl)))
                clear hslot hoth hdo hcl hLi
                refine guard_none (by rfl) ?_
                go_simp
                exact hK _ _ (flat_mark (hR.1) (fun _ _ h => h) hR.2 rfl)
            · intro b0 us wz L hslot hoth hLi hR hcl hdo K hK
              rcases HL.out with ⟨rfl, hf⟩ | ⟨rfl, hf⟩ | ⟨rfl, hf⟩
              · have s96 : b0.tmps.getD 96 undef = .bool false := (hslot 8 96 (by rfl)).trans (hR.2 8 (done_at hdo 8 (by rfl)))
                clear hslot hoth hdo hcl hLi
                refine guard_none (by rfl) ?_
                go_simp
                exact hK _ _ (flat_mark (hR.1) (fun _ _ h => h) hR.2 rfl)
              · have s96 : b0.tmps.getD 96 undef = .bool false := (hslot 8 96 (by rfl)).trans (hR.2 8 (done_at hdo 8 (by rfl)))
                clear hslot hoth hdo hcl hLi
                refine guard_none (by rfl) ?_
                go_simp
                exact hK _ _ (flat_mark (hR.1) (fun _ _ h => h) hR.2 rfl)
              · have s96 : b0.tmps.getD 96 undef = .bool true := (hslot 8 96 (by rfl)).trans (hR.2 8 (done_at hdo 8 (by rfl)))
                clear hslot hoth hdo hcl hLi
                refine guard_none (by rfl) ?_
                go_simp
                exact hK _ _ (flat_mark (hR.1) (fun _ _ h => h) hR.2 rfl)
            · intro b0 us wz L hslot hoth hLi hR hcl hdo K hK
              rcases HL.out with ⟨rfl, hf⟩ | ⟨rfl, hf⟩ | ⟨rfl, hf⟩
              · have gg : us 9 = .bool false := hR.2 9 (done_at hdo 9 (by rfl))
                refine guard_off (j := 9) (want := true) (d := 97) (by rfl) (by rfl) gg (by rfl) ?_
                exact hK undef _ (flat_mark (hR.1) (fun _ _ h => h) hR.2 rfl)
              · have gg : us 9 = .bool false := hR.2 9 (done_at hdo 9 (by rfl))
                refine guard_off (j := 9) (want := true) (d := 97) (by rfl) (by rfl) gg (by rfl) ?_
                exact hK undef _ (flat_mark (hR.1) (fun _ _ h => h) hR.2 rfl)
              · have gg : us 9 = .bool true := hR.2 9 (done_at hdo 9 (by rfl))
                have s6 : b0.tmps.getD 6 undef = .slice (some ⟨gx, 0, none⟩) n cx := hoth 6 (by rfl)
                clear hslot hoth hdo hcl hLi
                refine guard_on (j := 9) (want := true) (d := 97) (by rfl) (by rfl) gg ?_
                go_simp
                exact hK _ _ (flat_mark (hR.1) (fun _ _ h => h) hR.2 rfl)
            · intro b0 us wz L hslot hoth hLi hR hcl hdo K hK
              rcases HL.out with ⟨rfl, hf⟩ | ⟨rfl, hf⟩ | ⟨rfl, hf⟩
              · have gg : us 9 = .bool false := hR.2 9 (done_at hdo 9 (by rfl))
                refine guard_off (j := 9) (want := true) (d := 97) (by rfl) (by rfl) gg (by rfl) ?_
                exact hK undef _ (flat_mark (hR.1) (fun _ _ h => h) hR.2 rfl)
              · have gg : us 9 = .bool false := hR.2 9 (done_at hdo 9 (by rfl))
                refine guard_off (j := 9) (want := true) (d := 97) (by rfl) (by rfl) gg (by rfl) ?_
                exact hK undef _ (flat_mark (hR.1) (fun _ _ h => h) hR.2 rfl)
              · have gg : us 9 = .bool true := hR.2 9 (done_at hdo 9 (by rfl))
                have s12 : b0.tmps.getD 12 undef = .int .i64 (i : Int) := hoth 12 (by rfl)
                clear hslot hoth hdo hcl hLi
                refine guard_on (j := 9) (want := true) (d := 97) (by rfl) (by rfl) gg ?_
                go_simp
                exact hK _ _ (flat_mark (hR.1) (fun _ _ h => h) hR.2 rfl)
            · intro b0 us wz L hslot hoth hLi hR hcl hdo K hK
              rcases HL.out with ⟨rfl, hf⟩ | ⟨rfl, hf⟩ | ⟨rfl, hf⟩
              · have gg : us 9 = .bool false := hR.2 9 (done_at hdo 9 (by rfl))
                refine guard_off (j := 9) (want := true) (d := 97) (by rfl) (by rfl) gg (by rfl) ?_
                exact hK undef _ (flat_mark (hR.1) (fun _ _ h => h) hR.2 rfl)
              · have gg : us 9 = .bool false := hR.2 9 (done_at hdo 9 (by rfl))
                refine guard_off (j := 9) (want := true) (d := 97) (by rfl) (by rfl) gg (by rfl) ?_
                exact hK undef _ (flat_mark (hR.1) (fun _ _ h => h) hR.2 rfl)
              · have gg : us 9 = .bool true := hR.2 9 (done_at hdo 9 (by rfl))
                have s98 : b0.tmps.getD 98 undef = .slice (some ⟨gx, 0, none⟩) n cx := (hslot 10 98 (by rfl)).trans (hR.2 10 (done_at hdo 10 (by rfl)))
                have s99 : b0.tmps.getD 99 undef = .int .i64 (i : Int) := (hslot 11 99 (by rfl)).trans (hR.2 11 (done_at hdo 11 (by rfl)))
                have hin : i < n := HIX.out.1
                have hcx : n ≤ cx := HIX.out.2.1
                clear hslot hoth hdo hcl hLi
                refine guard_on (j := 9) (want := true) (d := 97) (by rfl) (by rfl) gg ?_
                go_simp
                exact hK _ _ (flat_mark (hR.1) (fun _ _ h => h) hR.2 rfl)
            · intro b0 us wz L hslot hoth hLi hR hcl hdo K hK
              rcases HL.out with ⟨rfl, hf⟩ | ⟨rfl, hf⟩ | ⟨rfl, hf⟩
              · have gg : us 9 = .bool false := hR.2 9 (done_at hdo 9 (by rfl))
                refine guard_off (j := 9) (want := true) (d := 97) (by rfl) (by rfl) gg (by rfl) ?_
                exact hK undef _ (flat_mark (hR.1) (fun _ _ h => h) hR.2 rfl)
              · have gg : us 9 = .bool false := hR.2 9 (done_at hdo 9 (by rfl))
                refine guard_off (j := 9) (want := true) (d := 97) (by rfl) (by rfl) gg (by rfl) ?_
                exact hK undef _ (flat_mark (hR.1) (fun _ _ h => h) hR.2 rfl)
              · have gg : us 9 = .bool true := hR.2 9 (done_at hdo 9 (by rfl))
                have s100 : b0.tmps.getD 100 undef = .pointer (some ⟨gx, i, none⟩) := (hslot 12 100 (by rfl)).trans (hR.2 12 (done_at hdo 12 (by rfl)))
                clear hslot hoth hdo hcl hLi
                refine guard_on (j := 9) (want := true) (d := 97) (by rfl) (by rfl) gg ?_
                go_simp
                exact hK _ _ (flat_mark (hR.1) (fun _ _ h => h) hR.2 rfl)
            · intro b0 us wz L hslot hoth hLi hR hcl hdo K hK
              rcases HL.out with ⟨rfl, hf⟩ | ⟨rfl, hf⟩ | ⟨rfl, hf⟩
              · have gg : us 9 = .bool false := hR.2 9 (done_at hdo 9 (by rfl))
                refine guard_off (j := 9) (want := true) (d := 97) (by rfl) (by rfl) gg (by rfl) ?_
                exact hK undef _ (flat_mark (hR.1) (fun _ _ h => h) hR.2 rfl)
              · have gg : us 9 = .bool false := hR.2 9 (done_at hdo 9 (by rfl))
                refine guard_off (j := 9) (want := true) (d := 97) (by rfl) (by rfl) gg (by rfl) ?_
                exact hK undef _ (flat_mark (hR.1) (fun _ _ h => h) hR.2 rfl)
              · have gg : us 9 = .bool true := hR.2 9 (done_at hdo 9 (by rfl))
                have s101 : b0.tmps.getD 101 undef = .pointer (some ⟨gx, i, none⟩) := (hslot 13 101 (by rfl)).trans (hR.2 13 (done_at hdo 13 (by rfl)))
                have hc := HCI.out.1 wz hR.1.2
                clear hslot hoth hdo hcl hLi
                refine guard_on (j := 9) (want := true) (d := 97) (by rfl) (by rfl) gg ?_
                go_simp
                exact hK _ _ (flat_mark (hR.1) (fun _ _ h => h) hR.2 rfl)
            · intro b0 us wz L hslot hoth hLi hR hcl hdo K hK
              rcases HL.out with ⟨rfl, hf⟩ | ⟨rfl, hf⟩ | ⟨rfl, hf⟩
              · have gg : us 9 = .bool false := hR.2 9 (done_at hdo 9 (by rfl))
                refine guard_off (j := 9) (want := true) (d := 97) (by rfl) (by rfl) gg (by rfl) ?_
                exact hK undef _ (flat_mark (hR.1) (fun _ _ h => h) hR.2 rfl)
              · have gg : us 9 = .bool false := hR.2 9 (done_at hdo 9 (by rfl))
                refine guard_off (j := 9) (want := true) (d := 97) (by rfl) (by rfl) gg (by rfl) ?_
                exact hK undef _ (flat_mark (hR.1) (fun _ _ h => h) hR.2 rfl)
              · have gg : us 9 = .bool true := hR.2 9 (done_at hdo 9 (by rfl))
                have s3 : b0.tmps.getD 3 undef = .slice (some ⟨gw, 0, none⟩) n c0 := hoth 3 (by rfl)
                clear hslot hoth hdo hcl hLi
                refine guard_on (j := 9) (want := true) (d := 97) (by rfl) (by rfl) gg ?_
                go_simp
                exact hK _ _ (flat_mark (hR.1) (fun _ _ h => h) hR.2 rfl)
            · intro b0 us wz L hslot hoth hLi hR hcl hdo K hK
              rcases HL.out with ⟨rfl, hf⟩ | ⟨rfl, hf⟩ | ⟨rfl, hf⟩
              · have gg : us 9 = .bool false := hR.2 9 (done_at hdo 9 (by rfl))
                refine guard_off (j := 9) (want := true) (d := 97) (by rfl) (by rfl) gg (by rfl) ?_
                exact hK undef _ (flat_mark (hR.1) (fun _ _ h => h) hR.2 rfl)
              · have gg : us 9 = .bool false := hR.2 9 (done_at hdo 9 (by rfl))
                refine guard_off (j := 9) (want := true) (d := 97) (by rfl) (by rfl) gg (by rfl) ?_
                exact hK undef _ (flat_mark (hR.1) (fun _ _ h => h) hR.2 rfl)
              · have gg : us 9 = .bool true := hR.2 9 (done_at hdo 9 (by rfl))
                have s12 : b0.tmps.getD 12 undef = .int .i64 (i : Int) := hoth 12 (by rfl)
                clear hslot hoth hdo hcl hLi
                refine guard_on (j := 9) (want := true) (d := 97) (by rfl) (by rfl) gg ?_
                go_simp
                exact hK _ _ (flat_mark (hR.1) (fun _ _ h => h) hR.2 rfl)
            · intro b0 us wz L hslot hoth hLi hR hcl hdo K hK
              rcases HL.out with ⟨rfl, hf⟩ | ⟨rfl, hf⟩ | ⟨rfl, hf⟩
              · have gg : us 9 = .bool false := hR.2 9 (done_at hdo 9 (by rfl))
                refine guard_off (j := 9) (want := true) (d := 97) (by rfl) (by rfl) gg (by rfl) ?_
                exact hK undef _ (flat_mark (hR.1) (fun _ _ h => h) hR.2 rfl)
              · have gg : us 9 = .bool false := hR.2 9 (done_at hdo 9 (by rfl))
                refine guard_off (j := 9) (want := true) (d := 97) (by rfl) (by rfl) gg (by rfl) ?_
                exact hK undef _ (flat_mark (hR.1) (fun _ _ h => h) hR.2 rfl)
              · have gg : us 9 = .bool true := hR.2 9 (done_at hdo 9 (by rfl))
                have s103 : b0.tmps.getD 103 undef = .slice (some ⟨gw, 0, none⟩) n c0 := (hslot 15 103 (by rfl)).trans (hR.2 15 (done_at hdo 15 (by rfl)))
                have s104 : b0.tmps.getD 104 undef = .int .i64 (i : Int) := (hslot 16 104 (by rfl)).trans (hR.2 16 (done_at hdo 16 (by rfl)))
                have hin : i < n := HIX.out.1
                have hcl : n ≤ c0 := HIX.out.2.2
                clear hslot hoth hdo hcl hLi
                refine guard_on (j := 9) (want := true) (d := 97) (by rfl) (by rfl) gg ?_
                go_simp
                exact hK _ _ (flat_mark (hR.1) (fun _ _ h => h) hR.2 rfl)
            · intro b0 us wz L hslot hoth hLi hR hcl hdo K hK
              rcases HL.out with ⟨rfl, hf⟩ | ⟨rfl, hf⟩ | ⟨rfl, hf⟩
              · have gg : us 9 = .bool false := hR.2 9 (done_at hdo 9 (by rfl))
                refine guard_off (j := 9) (want := true) (d := 97) (by rfl) (by rfl) gg (by rfl) ?_
                exact hK undef _ (flat_mark (hR.1) (fun _ _ h => h) hR.2 rfl)
              · have gg : us 9 = .bool false := hR.2 9 (done_at hdo 9 (by rfl))
                refine guard_off (j := 9) (want := true) (d := 97) (by rfl) (by rfl) gg (by rfl) ?_
                exact hK undef _ (flat_mark (hR.1) (fun _ _ h => h) hR.2 rfl)
              · have gg : us 9 = .bool true := hR.2 9 (done_at hdo 9 (by rfl))
                have s105 : b0.tmps.getD 105 undef = .pointer (some ⟨gw, i, none⟩) := (hslot 17 105 (by rfl)).trans (hR.2 17 (done_at hdo 17 (by rfl)))
                clear hslot hoth hdo hcl hLi
                refine guard_on (j := 9) (want := true) (d := 97) (by rfl) (by rfl) gg ?_
                go_simp
                exact hK _ _ (flat_mark (hR.1) (fun _ _ h => h) hR.2 rfl)
            · intro b0 us wz L hslot hoth hLi hR hcl hdo K hK
              rcases HL.out with ⟨rfl, hf⟩ | ⟨rfl, hf⟩ | ⟨rfl, hf⟩
              · have gg : us 9 = .bool false := hR.2 9 (done_at hdo 9 (by rfl))
                refine guard_off (j := 9) (want := true) (d := 97) (by rfl) (by rfl) gg (by rfl) ?_
                exact hK undef _ (flat_mark (hR.1) (fun _ _ h => h) hR.2 rfl)
              · have gg : us 9 = .bool false := hR.2 9 (done_at hdo 9 (by rfl))
                refine guard_off (j := 9) (want := true) (d := 97) (by rfl) (by rfl) gg (by rfl) ?_
                exact hK undef _ (flat_mark (hR.1) (fun _ _ h => h) hR.2 rfl)
              · have gg : us 9 = .bool true := hR.2 9 (done_at hdo 9 (by rfl))
                have s106 : b0.tmps.getD 106 undef = .pointer (some ⟨gw, i, none⟩) := (hslot 18 106 (by rfl)).trans (hR.2 18 (done_at hdo 18 (by rfl)))
                have hc := HCI.out.2.2.1 wz hR.1.2
                clear hslot hoth hdo hcl hLi
                refine guard_on (j := 9) (want := true) (d := 97) (by rfl) (by rfl) gg ?_
                go_simp
                exact hK _ _ (flat_mark (hR.1) (fun _ _ h => h) hR.2 rfl)
            · intro b0 us wz L hslot hoth hLi hR hcl hdo K hK
              rcases HL.out with ⟨rfl, hf⟩ | ⟨rfl, hf⟩ | ⟨rfl, hf⟩
              · have gg : us 9 = .bool false := hR.2 9 (done_at hdo 9 (by rfl))
                refine guard_off (j := 9) (want := true) (d := 97) (by rfl) (by rfl) gg (by rfl) ?_
                exact hK undef _ (flat_mark (hR.1) (fun _ _ h => h) hR.2 rfl)
              · have gg : us 9 = .bool false := hR.2 9 (done_at hdo 9 (by rfl))
                refine guard_off (j := 9) (want := true) (d := 97) (by rfl) (by rfl) gg (by rfl) ?_
                exact hK undef _ (flat_mark (hR.1) (fun _ _ h => h) hR.2 rfl)
              · have gg : us 9 = .bool true := hR.2 9 (done_at hdo 9 (by rfl))
                have s102 : b0.tmps.getD 102 undef = .slice (some qx) 5 xc := (hslot 14 102 (by rfl)).trans (hR.2 14 (done_at hdo 14 (by rfl)))
                have s107 : b0.tmps.getD 107 undef = .slice (some qi) 5 ic := (hslot 19 107 (by rfl)).trans (hR.2 19 (done_at hdo 19 (by rfl)))
                clear hslot hoth hdo hcl hLi
                refine guard_on (j := 9) (want := true) (d := 97) (by rfl) (by rfl) gg ?_
                go_simp
                refine (HCI.out.2.2.2 hf.out wz hR.1.2).mono ?_
                rintro e w' ⟨rfl, hb⟩
                exact hK _ _ (flat_mark ⟨hR.1.1.on hb, below_more hR.1.2 hb⟩ (fun _ _ h => h) hR.2 rfl)
            · intro b0 us wz L hslot hoth hLi hR hcl hdo K hK
              rcases HL.out with ⟨rfl, hf⟩ | ⟨rfl, hf⟩ | ⟨rfl, hf⟩
              · have gg : us 9 = .bool false := hR.2 9 (done_at hdo 9 (by rfl))
                refine guard_off (j := 9) (want := true) (d := 97) (by rfl) (by rfl) gg (by rfl) ?_
                exact hK undef _ (flat_mark (hR.1) (fun _ _ h => h) hR.2 rfl)
              · have gg : us 9 = .bool false := hR.2 9 (done_at hdo 9 (by rfl))
                refine guard_off (j := 9) (want := true) (d := 97) (by rfl) (by rfl) gg (by rfl) ?_
                exact hK undef _ (flat_mark (hR.1) (fun _ _ h => h) hR.2 rfl)
              · have gg : us 9 = .bool true := hR.2 9 (done_at hdo 9 (by rfl))
                have s108 : b0.tmps.getD 108 undef = .bool true := (hslot 20 108 (by rfl)).trans (hR.2 20 (done_at hdo 20 (by rfl)))
                clear hslot hoth hdo hcl hLi
                refine guard_on (j := 9) (want := true) (d := 97) (by rfl) (by rfl) gg ?_
                go_simp
                exact hK _ _ (flat_mark (hR.1) (fun _ _ h => h) hR.2 rfl)
            · intro b0 us wz L hslot hoth hLi hR hcl hdo K hK
              rcases HL.out with ⟨rfl, hf⟩ | ⟨rfl, hf⟩ | ⟨rfl, hf⟩
              · have s97 : b0.tmps.getD 97 undef = .bool false := (hslot 9 97 (by rfl)).trans (hR.2 9 (done_at hdo 9 (by rfl)))
                have s109 : b0.tmps.getD 109 undef = undef := (hslot 21 109 (by rfl)).trans (hR.2 21 (done_at hdo 21 (by rfl)))
                clear hslot hoth hdo hcl hLi
                refine guard_none (by rfl) ?_
                go_simp
                exact hK _ _ (flat_mark (hR.1) (fun _ _ h => h) hR.2 rfl)
              · have s97 : b0.tmps.getD 97 undef = .bool false := (hslot 9 97 (by rfl)).trans (hR.2 9 (done_at hdo 9 (by rfl)))
                have s109 : b0.tmps.getD 109 undef = undef := (hslot 21 109 (by rfl)).trans (hR.2 21 (done_at hdo 21 (by rfl)))
                clear hslot hoth hdo hcl hLi
                refine guard_none (by rfl) ?_
                go_simp
                exact hK _ _ (flat_mark (hR.1) (fun _ _ h => h) hR.2 rfl)
              · have s97 : b0.tmps.getD 97 undef = .bool true := (hslot 9 97 (by rfl)).trans (hR.2 9 (done_at hdo 9 (by rfl)))
                have s109 : b0.tmps.getD 109 undef = .bool false := (hslot 21 109 (by rfl)).trans (hR.2 21 (done_at hdo 21 (by rfl)))
                clear hslot hoth hdo hcl hLi
                refine guard_none (by rfl) ?_
                go_simp
                exact hK _ _ (flat_mark (hR.1) (fun _ _ h => h) hR.2 rfl)
            · intro b0 us wz L hslot hoth hLi hR hcl hdo K hK
              rcases HL.out with ⟨rfl, hf⟩ | ⟨rfl, hf⟩ | ⟨rfl, hf⟩
              · have s110 : b0.tmps.getD 110 undef = .bool false := (hslot 22 110 (by rfl)).trans (hR.2 22 (done_at hdo 22 (by rfl)))
                clear hslot hoth hdo hcl hLi
                refine guard_none (by rfl) ?_
                go_simp
                exact hK _ _ (flat_mark (hR.1) (fun _ _ h => h) hR.2 rfl)
              · have s110 : b0.tmps.getD 110 undef = .bool false := (hslot 22 110 (by rfl)).trans (hR.2 22 (done_at hdo 22 (by rfl)))
                clear hslot hoth hdo hcl hLi
                refine guard_none (by rfl) ?_
                go_simp
                exact hK _ _ (flat_mark (hR.1) (fun _ _ h => h) hR.2 rfl)
              · have s110 : b0.tmps.getD 110 undef = .bool false := (hslot 22 110 (by rfl)).trans (hR.2 22 (done_at hdo 22 (by rfl)))
                clear hslot hoth hdo hcl hLi
                refine guard_none (by rfl) ?_
                go_simp
                exact hK _ _ (flat_mark (hR.1) (fun _ _ h => h) hR.2 rfl)
            · intro b0 us wz L hslot hoth hLi hR hcl hdo K hK
              rcases HL.out with ⟨rfl, hf⟩ | ⟨rfl, hf⟩ | ⟨rfl, hf⟩
              · have gg : us 23 = .bool false := hR.2 23 (done_at hdo 23 (by rfl))
                have s6 : b0.tmps.getD 6 undef = .slice (some ⟨gx, 0, none⟩) n cx := hoth 6 (by rfl)
                clear hslot hoth hdo hcl hLi
                refine guard_on (j := 23) (want := false) (d := 111) (by rfl) (by rfl) gg ?_
                go_simp
                exact hK _ _ (flat_mark (hR.1) (fun _ _ h => h) hR.2 rfl)
              · have gg : us 23 = .bool false := hR.2 23 (done_at hdo 23 (by rfl))
                have s6 : b0.tmps.getD 6 undef = .slice (some ⟨gx, 0, none⟩) n cx := hoth 6 (by rfl)
                clear hslot hoth hdo hcl hLi
                refine guard_on (j := 23) (want := false) (d := 111) (by rfl) (by rfl) gg ?_
                go_simp
                exact hK _ _ (flat_mark (hR.1) (fun _ _ h => h) hR.2 rfl)
              · have gg : us 23 = .bool false := hR.2 23 (done_at hdo 23 (by rfl))
                have s6 : b0.tmps.getD 6 undef = .slice (some ⟨gx, 0, none⟩) n cx := hoth 6 (by rfl)
                clear hslot hoth hdo hcl hLi
                refine guard_on (j := 23) (want := false) (d := 111) (by rfl) (by rfl) gg ?_
                go_simp
                exact hK _ _ (flat_mark (hR.1) (fun _ _ h => h) hR.2 rfl)
            · intro b0 us wz L hslot hoth hLi hR hcl hdo K hK
              rcases HL.out with ⟨rfl, hf⟩ | ⟨rfl, hf⟩ | ⟨rfl, hf⟩
              · have gg : us 23 = .bool false := hR.2 23 (done_at hdo 23 (by rfl))
                have s12 : b0.tmps.getD 12 undef = .int .i64 (i : Int) := hoth 12 (by rfl)
                clear hslot hoth hdo hcl hLi
                refine guard_on (j := 23) (want := false) (d := 111) (by rfl) (by rfl) gg ?_
                go_simp
                exact hK _ _ (flat_mark (hR.1) (fun _ _ h => h) hR.2 rfl)
              · have gg : us 23 = .bool false := hR.2 23 (done_at hdo 23 (by rfl))
                have s12 : b0.tmps.getD 12 undef = .int .i64 (i : Int) := hoth 12 (by rfl)
                clear hslot hoth hdo hcl hLi
                refine guard_on (j := 23) (want := false) (d := 111) (by rfl) (by rfl) gg ?_
                go_simp
                exact hK _ _ (flat_mark (hR.1) (fun _ _ h => h) hR.2 rfl)
              · have gg : us 23 = .bool false := hR.2 23 (done_at hdo 23 (by rfl))
                have s12 : b0.tmps.getD 12 undef = .int .i64 (i : Int) := hoth 12 (by rfl)
                clear hslot hoth hdo hcl hLi
                refine guard_on (j := 23) (want := false) (d := 111) (by rfl) (by rfl) gg ?_
                go_simp
                exact hK _ _ (flat_mark (hR.1) (fun _ _ h => h) hR.2 rfl)
            · intro b0 us wz L hslot hoth hLi hR hcl hdo K hK
              rcases HL.out with ⟨rfl, hf⟩ | ⟨rfl, hf⟩ | ⟨rfl, hf⟩
              · have gg : us 23 = .bool false := hR.2 23 (done_at hdo 23 (by rfl))
                have s112 : b0.tmps.getD 112 undef = .slice (some ⟨gx, 0, none⟩) n cx := (hslot 24 112 (by rfl)).trans (hR.2 24 (done_at hdo 24 (by rfl)))
                have s113 : b0.tmps.getD 113 undef = .int .i64 (i : Int) := (hslot 25 113 (by rfl)).trans (hR.2 25 (done_at hdo 25 (by rfl)))
                have hin : i < n := HIX.out.1
                have hcx : n ≤ cx := HIX.out.2.1
                clear hslot hoth hdo hcl hLi
                refine guard_on (j := 23) (want := false) (d := 111) (by rfl) (by rfl) gg ?_
                go_simp
                exact hK _ _ (flat_mark (hR.1) (fun _ _ h => h) hR.2 rfl)
              · have gg : us 23 = .bool false := hR.2 23 (done_at hdo 23 (by rfl))
                have s112 : b0.tmps.getD 112 undef = .slice (some ⟨gx, 0, none⟩) n cx := (hslot 24 112 (by rfl)).trans (hR.2 24 (done_at hdo 24 (by rfl)))
                have s113 : b0.tmps.getD 113 undef = .int .i64 (i : Int) := (hslot 25 113 (by rfl)).trans (hR.2 25 (done_at hdo 25 (by rfl)))
                have hin : i < n := HIX.out.1
                have hcx : n ≤ cx := HIX.out.2.1
                clear hslot hoth hdo hcl hLi
                refine guard_on (j := 23) (want := false) (d := 111) (by rfl) (by rfl) gg ?_
                go_simp
                exact hK _ _ (flat_mark (hR.1) (fun _ _ h => h) hR.2 rfl)
              · have gg : us 23 = .bool false := hR.2 23 (done_at hdo 23 (by rfl))
                have s112 : b0.tmps.getD 112 undef = .slice (some ⟨gx, 0, none⟩) n cx := (hslot 24 112 (by rfl)).trans (hR.2 24 (done_at hdo 24 (by rfl)))
                have s113 : b0.tmps.getD 113 undef = .int .i64 (i : Int) := (hslot 25 113 (by rfl)).trans (hR.2 25 (done_at hdo 25 (by rfl)))
                have hin : i < n := HIX.out.1
                have hcx : n ≤ cx := HIX.out.2.1
                clear hslot hoth hdo hcl hLi
                refine guard_on (j := 23) (want := false) (d := 111) (by rfl) (by rfl) gg ?_
                go_simp
                exact hK _ _ (flat_mark (hR.1) (fun _ _ h => h) hR.2 rfl)
            · intro b0 us wz L hslot hoth hLi hR hcl hdo K hK
              rcases HL.out with ⟨rfl, hf⟩ | ⟨rfl, hf⟩ | ⟨rfl, hf⟩
              · have gg : us 23 = .bool false := hR.2 23 (done_at hdo 23 (by rfl))
                have s114 : b0.tmps.getD 114 undef = .pointer (some ⟨gx, i, none⟩) := (hslot 26 114 (by rfl)).trans (hR.2 26 (done_at hdo 26 (by rfl)))
                clear hslot hoth hdo hcl hLi
                refine guard_on (j := 23) (want := false) (d := 111) (by rfl) (by rfl) gg ?_
                go_simp
                exact hK _ _ (flat_mark (hR.1) (fun _ _ h => h) hR.2 rfl)
              · have gg : us 23 = .bool false := hR.2 23 (done_at hdo 23 (by rfl))
                have s114 : b0.tmps.getD 114 undef = .pointer (some ⟨gx, i, none⟩) := (hslot 26 114 (by rfl)).trans (hR.2 26 (done_at hdo 26 (by rfl)))
                clear hslot hoth hdo hcl hLi
                refine guard_on (j := 23) (want := false) (d := 111) (by rfl) (by rfl) gg ?_
                go_simp
                exact hK _ _ (flat_mark (hR.1) (fun _ _ h => h) hR.2 rfl)
              · have gg : us 23 = .bool false := hR.2 23 (done_at hdo 23 (by rfl))
                have s114 : b0.tmps.getD 114 undef = .pointer (some ⟨gx, i, none⟩) := (hslot 26 114 (by rfl)).trans (hR.2 26 (done_at hdo 26 (by rfl)))
                clear hslot hoth hdo hcl hLi
                refine guard_on (j := 23) (want := false) (d := 111) (by rfl) (by rfl) gg ?_
                go_simp
                exact hK _ _ (flat_mark (hR.1) (fun _ _ h => h) hR.2 rfl)
            · intro b0 us wz L hslot hoth hLi hR hcl hdo K hK
              rcases HL.out with ⟨rfl, hf⟩ | ⟨rfl, hf⟩ | ⟨rfl, hf⟩
              · have gg : us 23 = .bool false := hR.2 23 (done_at hdo 23 (by rfl))
                have s115 : b0.tmps.getD 115 undef = .pointer (some ⟨gx, i, none⟩) := (hslot 27 115 (by rfl)).trans (hR.2 27 (done_at hdo 27 (by rfl)))
                have hc := HCI.out.1 wz hR.1.2
                clear hslot hoth hdo hcl hLi
                refine guard_on (j := 23) (want := false) (d := 111) (by rfl) (by rfl) gg ?_
                go_simp
                exact hK _ _ (flat_mark (hR.1) (fun _ _ h => h) hR.2 rfl)
              · have gg : us 23 = .bool false := hR.2 23 (done_at hdo 23 (by rfl))
                have s115 : b0.tmps.getD 115 undef = .pointer (some ⟨gx, i, none⟩) := (hslot 27 115 (by rfl)).trans (hR.2 27 (done_at hdo 27 (by rfl)))
                have hc := HCI.out.1 wz hR.1.2
                clear hslot hoth hdo hcl hLi
                refine guard_on (j := 23) (want := false) (d := 111) (by rfl) (by rfl) gg ?_
                go_simp
                exact hK _ _ (flat_mark (hR.1) (fun _ _ h => h) hR.2 rfl)
              · have gg : us 23 = .bool false := hR.2 23 (done_at hdo 23 (by rfl))
                have s115 : b0.tmps.getD 115 undef = .pointer (some ⟨gx, i, none⟩) := (hslot 27 115 (by rfl)).trans (hR.2 27 (done_at hdo 27 (by rfl)))
                have hc := HCI.out.1 wz hR.1.2
                clear hslot hoth hdo hcl hLi
                refine guard_on (j := 23) (want := false) (d := 111) (by rfl) (by rfl) gg ?_
                go_simp
                exact hK _ _ (flat_mark (hR.1) (fun _ _ h => h) hR.2 rfl)
            · intro b0 us wz L hslot hoth hLi hR hcl hdo K hK
              rcases HL.out with ⟨rfl, hf⟩ | ⟨rfl, hf⟩ | ⟨rfl, hf⟩
              · have gg : us 23 = .bool false := hR.2 23 (done_at hdo 23 (by rfl))
                have s116 : b0.tmps.getD 116 undef = .slice (some qx) 5 xc := (hslot 28 116 (by rfl)).trans (hR.2 28 (done_at hdo 28 (by rfl)))
                clear hslot hoth hdo hcl hLi
                refine guard_on (j := 23) (want := false) (d := 111) (by rfl) (by rfl) gg ?_
                go_simp
                refine (HCI.out.2.1 wz hR.1.2).mono ?_
                rintro e w' ⟨rfl, hb⟩
                exact hK _ _ (flat_mark ⟨hR.1.1.on hb, below_more hR.1.2 hb⟩ (fun _ _ h => h) hR.2 rfl)
              · have gg : us 23 = .bool false := hR.2 23 (done_at hdo 23 (by rfl))
                have s116 : b0.tmps.getD 116 undef = .slice (some qx) 5 xc := (hslot 28 116 (by rfl)).trans (hR.2 28 (done_at hdo 28 (by rfl)))
                clear hslot hoth hdo hcl hLi
                refine guard_on (j := 23) (want := false) (d := 111) (by rfl) (by rfl) gg ?_
                go_simp
                refine (HCI.out.2.1 wz hR.1.2).mono ?_
                rintro e w' ⟨rfl, hb⟩
                exact hK _ _ (flat_mark ⟨hR.1.1.on hb, below_more hR.1.2 hb⟩ (fun _ _ h => h) hR.2 rfl)
              · have gg : us 23 = .bool false := hR.2 23 (done_at hdo 23 (by rfl))
                have s116 : b0.tmps.getD 116 undef = .slice (some qx) 5 xc := (hslot 28 116 (by rfl)).trans (hR.2 28 (done_at hdo 28 (by rfl)))
                clear hslot hoth hdo hcl hLi
                refine guard_on (j := 23) (want := false) (d := 111) (by rfl) (by rfl) gg ?_
                go_simp
                refine (HCI.out.2.1 wz hR.1.2).mono ?_
                rintro e w' ⟨rfl, hb⟩
                exact hK _ _ (flat_mark ⟨hR.1.1.on hb, below_more hR.1.2 hb⟩ (fun _ _ h => h) hR.2 rfl)
            · intro b0 us wz L hslot hoth hLi hR hcl hdo K hK
              rcases HL.out with ⟨rfl, hf⟩ | ⟨rfl, hf⟩ | ⟨rfl, hf⟩
              · have gg : us 23 = .bool false := hR.2 23 (done_at hdo 23 (by rfl))
                have s117 : b0.tmps.getD 117 undef = .bool true := (hslot 29 117 (by rfl)).trans (hR.2 29 (done_at hdo 29 (by rfl)))
                clear hslot hoth hdo hcl hLi
                refine guard_on (j := 23) (want := false) (d := 111) (by rfl) (by rfl) gg ?_
                go_simp
                exact hK _ _ (flat_mark (hR.1) (fun _ _ h => h) hR.2 rfl)
              · have gg : us 23 = .bool false := hR.2 23 (done_at hdo 23 (by rfl))
                have s117 : b0.tmps.getD 117 undef = .bool true := (hslot 29 117 (by rfl)).trans (hR.2 29 (done_at hdo 29 (by rfl)))
                clear hslot hoth hdo hcl hLi
                refine guard_on (j := 23) (want := false) (d := 111) (by rfl) (by rfl) gg ?_
                go_simp
                exact hK _ _ (flat_mark (hR.1) (fun _ _ h => h) hR.2 rfl)
              · have gg : us 23 = .bool false := hR.2 23 (done_at hdo 23 (by rfl))
                have s117 : b0.tmps.getD 117 undef = .bool true := (hslot 29 117 (by rfl)).trans (hR.2 29 (done_at hdo 29 (by rfl)))
                clear hslot hoth hdo hcl hLi
                refine guard_on (j := 23) (want := false) (d := 111) (by rfl) (by rfl) gg ?_
                go_simp
                exact hK _ _ (flat_mark (hR.1) (fun _ _ h => h) hR.2 rfl)
            · intro b0 us wz L hslot hoth hLi hR hcl hdo K hK
              rcases HL.out with ⟨rfl, hf⟩ | ⟨rfl, hf⟩ | ⟨rfl, hf⟩
              · have s111 : b0.tmps.getD 111 undef = .bool false := (hslot 23 111 (by rfl)).trans (hR.2 23 (done_at hdo 23 (by rfl)))
                have s118 : b0.tmps.getD 118 undef = .bool false := (hslot 30 118 (by rfl)).trans (hR.2 30 (done_at hdo 30 (by rfl)))
                clear hslot hoth hdo hcl hLi
                refine guard_none (by rfl) ?_
                go_simp
                exact hK _ _ (flat_mark (hR.1) (fun _ _ h => h) hR.2 rfl)
              · have s111 : b0.tmps.getD 111 undef = .bool false := (hslot 23 111 (by rfl)).trans (hR.2 23 (done_at hdo 23 (by rfl)))
                have s118 : b0.tmps.getD 118 undef = .bool false := (hslot 30 118 (by rfl)).trans (hR.2 30 (done_at hdo 30 (by rfl)))
                clear hslot hoth hdo hcl hLi
                refine guard_none (by rfl) ?_
                go_simp
                exact hK _ _ (flat_mark (hR.1) (fun _ _ h => h) hR.2 rfl)
              · have s111 : b0.tmps.getD 111 undef = .bool false := (hslot 23 111 (by rfl)).trans (hR.2 23 (done_at hdo 23 (by rfl)))
                have s118 : b0.tmps.getD 118 undef = .bool false := (hslot 30 118 (by rfl)).trans (hR.2 30 (done_at hdo 30 (by rfl)))
                clear hslot hoth hdo hcl hLi
                refine guard_none (by rfl) ?_
                go_simp
                exact hK _ _ (flat_mark (hR.1) (fun _ _ h => h) hR.2 rfl)
          · intro us wn L hall hR a' ha'
            have g31 : us 31 = .bool false := by
              have := hR.2 31 (hall 31 (by decide))
              rcases HL.out with ⟨rfl, _⟩ | ⟨rfl, _⟩ | ⟨rfl, _⟩
              all_goals exact this
            have HB := hid_of hR.1
            clear hR hall
            simp only [putAll, g31] at ha'
            subst ha'
            go_frame
            have HLN := hid_of HB.out.1
            clear HB HL l HCI HIX hL
            go_wp2
            go_roundw
            case rel => exact ⟨i + 1, by omega, by go_num, HLN⟩
            case measure => simp [intOf]; omega
        · obtain rfl : n = i := by omega
          go_wp2_with fail
          obtain ⟨l, HL⟩ : ∃ l, Hid ((l = [.slice (some ⟨gx, 0, none⟩) n cx, amt SA SB SC, .slice (some ⟨gw, 0, none⟩) n c0, amt SA SB SC, .bool true, .bool true, .int .i64 M, .int .i64 HD, .bool true, .bool true, .bool true, .pointer (some ⟨gb, 4, none⟩), .int .i64 k, .bool false, .bool false, .int .i64 M, .pointer (some ⟨gb, 5, none⟩), .int .i64 t, .bool true, .bool true, .bool true, .bool true, .int .i64 M, tapV (rn : Int) (pn : Int) q h k t, .slice (some ⟨gw, 0, none⟩) n c0, .int .i64 (m : Int), .pointer (some ⟨gw, m, none⟩), .pointer (some ⟨gw, m, none⟩), .slice (some ql) 5 lc, .pointer (some ⟨gb, 0, none⟩), .int .i64 (rn : Int), .pointer (some qr), .pointer (some ⟨qr.block, qr.off + 2, none⟩), amt ra rb rc, .int .i64 M, .bool true, .bool true, .bool true] ∧ Hid (k = 1)) ∨ (l = [.slice (some ⟨gx, 0, none⟩) n cx, amt SA SB SC, .slice (some ⟨gw, 0, none⟩) n c0, amt SA SB SC, .bool true, .bool true, .int .i64 M, .int .i64 HD, .bool true, .bool true, .bool true, .pointer (some ⟨gb, 4, none⟩), .int .i64 k, .bool true, .bool true, undef, undef, undef, undef, .bool true, .bool true, .bool true, .int .i64 M, tapV (rn : Int) (pn : Int) q h k t, .slice (some ⟨gw, 0, none⟩) n c0, .int .i64 (m : Int), .pointer (some ⟨gw, m, none⟩), .pointer (some ⟨gw, m, none⟩), .slice (some ql) 5 lc, .pointer (some ⟨gb, 0, none⟩), .int .i64 (rn : Int), .pointer (some qr), .pointer (some ⟨qr.block, qr.off + 2, none⟩), amt ra rb rc, .int .i64 M, .bool true, .bool true, .bool true] ∧ Hid (k ≠ 1))) := by
            by_cases h1 : k = 1
            · exact ⟨_, .inl ⟨rfl, h1⟩⟩
            · exact ⟨_, .inr ⟨rfl, h1⟩⟩
          refine wp_region_whole (by kernel_rfl) (by kernel_rfl) (by kernel_rfl) (by kernel_rfl) (Flat (fun wz => LT w3 gw c0 n tss gx cx ns gb (rn : Int) (pn : Int) q h k t wz) (gVals l)) (flat_start (hL.out.on (below_draw wr))) ?_ ?_
          · refine ⟨?_, ?_, ?_, ?_, ?_, ?_, ?_, ?_, ?_, ?_, ?_, ?_, ?_, ?_, ?_, ?_, ?_, ?_, ?_, ?_, ?_, ?_, ?_, ?_, ?_, ?_, ?_, ?_, ?_, ?_, ?_, ?_, ?_, ?_, ?_, ?_, ?_, ?_, trivial⟩
            · intro b0 us wz L hslot hoth hLi hR hcl hdo K hK
              rcases HL.out with ⟨rfl, hf⟩ | ⟨rfl, hf⟩
              · have s6 : b0.tmps.getD 6 undef = .slice (some ⟨gx, 0, none⟩) n cx := hoth 6 (by rfl)
                clear hslot hoth hdo hcl hLi
                refine guard_none (by rfl) ?_
                go_simp
                exact hK _ _ (flat_mark (hR.1) (fun _ _ h => h) hR.2 rfl)
              · have s6 : b0.tmps.getD 6 undef = .slice (some ⟨gx, 0, none⟩) n cx := hoth 6 (by rfl)
                clear hslot hoth hdo hcl hLi
                refine guard_none (by rfl) ?_
                go_simp
                exact hK _ _ (flat_mark (hR.1) (fun _ _ h => h) hR.2 rfl)
            · intro b0 us wz L hslot hoth hLi hR hcl hdo K hK
              rcases HL.out with ⟨rfl, hf⟩ | ⟨rfl, hf⟩
              · have s120 : b0.tmps.getD 120 undef = .slice (some ⟨gx, 0, none⟩) n cx := (hslot 0 120 (by rfl)).trans (hR.2 0 (done_at hdo 0 (by rfl)))
                clear hslot hoth hdo hcl hLi
                refine guard_none (by rfl) ?_
                go_simp
                refine (CIS.out wz hR.1.x).mono ?_
                rintro e w' ⟨rfl, hb⟩
                exact hK _ _ (flat_mark (hR.1.on hb) (fun _ _ h => h) hR.2 rfl)
              · have s120 : b0.tmps.getD 120 undef = .slice (some ⟨gx, 0, none⟩) n cx := (hslot 0 120 (by rfl)).trans (hR.2 0 (done_at hdo 0 (by rfl)))
                clear hslot hoth hdo hcl hLi
                refine guard_none (by rfl) ?_
                go_simp
                refine (CIS.out wz hR.1.x).mono ?_
                rintro e w' ⟨rfl, hb⟩
                exact hK _ _ (flat_mark (hR.1.on hb) (fun _ _ h => h) hR.2 rfl)
            · intro b0 us wz L hslot hoth hLi hR hcl hdo K hK
              rcases HL.out with ⟨rfl, hf⟩ | ⟨rfl, hf⟩
              · have s3 : b0.tmps.getD 3 undef = .slice (some ⟨gw, 0, none⟩) n c0 := hoth 3 (by rfl)
                clear hslot hoth hdo hcl hLi
                refine guard_none (by rfl) ?_
                go_simp
                exact hK _ _ (flat_mark (hR.1) (fun _ _ h => h) hR.2 rfl)
              · have s3 : b0.tmps.getD 3 undef = .slice (some ⟨gw, 0, none⟩) n c0 := hoth 3 (by rfl)
                clear hslot hoth hdo hcl hLi
                refine guard_none (by rfl) ?_
                go_simp
                exact hK _ _ (flat_mark (hR.1) (fun _ _ h => h) hR.2 rfl)
            · intro b0 us wz L hslot hoth hLi hR hcl hdo K hK
              rcases HL.out with ⟨rfl, hf⟩ | ⟨rfl, hf⟩
              · have s122 : b0.tmps.getD 122 undef = .slice (some ⟨gw, 0, none⟩) n c0 := (hslot 2 122 (by rfl)).trans (hR.2 2 (done_at hdo 2 (by rfl)))
                clear hslot hoth hdo hcl hLi
                refine guard_none (by rfl) ?_
                go_simp
                refine (CSS.out wz hR.1.l).mono ?_
                rintro e w' ⟨rfl, hb⟩
                exact hK _ _ (flat_mark (hR.1.on hb) (fun _ _ h => h) hR.2 rfl)
              · have s122 : b0.tmps.getD 122 undef = .slice (some ⟨gw, 0, none⟩) n c0 := (hslot 2 122 (by rfl)).trans (hR.2 2 (done_at hdo 2 (by rfl)))
                clear hslot hoth hdo hcl hLi
                refine guard_none (by rfl) ?_
                go_simp
                refine (CSS.out wz hR.1.l).mono ?_
                rintro e w' ⟨rfl, hb⟩
                exact hK _ _ (flat_mark (hR.1.on hb) (fun _ _ h => h) hR.2 rfl)
            · intro b0 us wz L hslot hoth hLi hR hcl hdo K hK
              rcases HL.out with ⟨rfl, hf⟩ | ⟨rfl, hf⟩
              · have s121 : b0.tmps.getD 121 undef = amt SA SB SC := (hslot 1 121 (by rfl)).trans (hR.2 1 (done_at hdo 1 (by rfl)))
                have s123 : b0.tmps.getD 123 undef = amt SA SB SC := (hslot 3 123 (by rfl)).trans (hR.2 3 (done_at hdo 3 (by rfl)))
                clear hslot hoth hdo hcl hLi
                refine guard_none (by rfl) ?_
                go_simp
                exact hK _ _ (flat_mark (hR.1) (fun _ _ h => h) hR.2 rfl)
              · have s121 : b0.tmps.getD 121 undef = amt SA SB SC := (hslot 1 121 (by rfl)).trans (hR.2 1 (done_at hdo 1 (by rfl)))
                have s123 : b0.tmps.getD 123 undef = amt SA SB SC := (hslot 3 123 (by rfl)).trans (hR.2 3 (done_at hdo 3 (by rfl)))
                clear hslot hoth hdo hcl hLi
                refine guard_none (by rfl) ?_
                go_simp
                exact hK _ _ (flat_mark (hR.1) (fun _ _ h => h) hR.2 rfl)
            · intro b0 us wz L hslot hoth hLi hR hcl hdo K hK
              rcases HL.out with ⟨rfl, hf⟩ | ⟨rfl, hf⟩
              · have s124 : b0.tmps.getD 124 undef = .bool true := (hslot 4 124 (by rfl)).trans (hR.2 4 (done_at hdo 4 (by rfl)))
                clear hslot hoth hdo hcl hLi
                refine guard_none (by rfl) ?_
                go_simp
                exact hK _ _ (flat_mark (hR.1) (fun _ _ h => h) hR.2 rfl)
              · have s124 : b0.tmps.getD 124 undef = .bool true := (hslot 4 124 (by rfl)).trans (hR.2 4 (done_at hdo 4 (by rfl)))
                clear hslot hoth hdo hcl hLi
                refine guard_none (by rfl) ?_
                go_simp
                exact hK _ _ (flat_mark (hR.1) (fun _ _ h => h) hR.2 rfl)
            · intro b0 us wz L hslot hoth hLi hR hcl hdo K hK
              rcases HL.out with ⟨rfl, hf⟩ | ⟨rfl, hf⟩
              · have gg : us 5 = .bool true := hR.2 5 (done_at hdo 5 (by rfl))
                have s7 : b0.tmps.getD 7 undef = .int .i64 M := hoth 7 (by rfl)
                clear hslot hoth hdo hcl hLi
                refine guard_on (j := 5) (want := true) (d := 125) (by rfl) (by rfl) gg ?_
                go_simp
                exact hK _ _ (flat_mark (hR.1) (fun _ _ h => h) hR.2 rfl)
              · have gg : us 5 = .bool true := hR.2 5 (done_at hdo 5 (by rfl))
                have s7 : b0.tmps.getD 7 undef = .int .i64 M := hoth 7 (by rfl)
                clear hslot hoth hdo hcl hLi
                refine guard_on (j := 5) (want := true) (d := 125) (by rfl) (by rfl) gg ?_
                go_simp
                exact hK _ _ (flat_mark (hR.1) (fun _ _ h => h) hR.2 rfl)
            · intro b0 us wz L hslot hoth hLi hR hcl hdo K hK
              rcases HL.out with ⟨rfl, hf⟩ | ⟨rfl, hf⟩
              · have gg : us 5 = .bool true := hR.2 5 (done_at hdo 5 (by rfl))
                have s11 : b0.tmps.getD 11 undef = .int .i64 HD := hoth 11 (by rfl)
                clear hslot hoth hdo hcl hLi
                refine guard_on (j := 5) (want := true) (d := 125) (by rfl) (by rfl) gg ?_
                go_simp
                exact hK _ _ (flat_mark (hR.1) (fun _ _ h => h) hR.2 rfl)
              · have gg : us 5 = .bool true := hR.2 5 (done_at hdo 5 (by rfl))
                have s11 : b0.tmps.getD 11 undef = .int .i64 HD := hoth 11 (by rfl)
                clear hslot hoth hdo hcl hLi
                refine guard_on (j := 5) (want := true) (d := 125) (by rfl) (by rfl) gg ?_
                go_simp
                exact hK _ _ (flat_mark (hR.1) (fun _ _ h => h) hR.2 rfl)
            · intro b0 us wz L hslot hoth hLi hR hcl hdo K hK
              rcases HL.out with ⟨rfl, hf⟩ | ⟨rfl, hf⟩
              · have gg : us 5 = .bool true := hR.2 5 (done_at hdo 5 (by rfl))
                have s126 : b0.tmps.getD 126 undef = .int .i64 M := (hslot 6 126 (by rfl)).trans (hR.2 6 (done_at hdo 6 (by rfl)))
                have s127 : b0.tmps.getD 127 undef = .int .i64 HD := (hslot 7 127 (by rfl)).trans (hR.2 7 (done_at hdo 7 (by rfl)))
                have hle : M ≤ HD := HMF.out.1
                clear hslot hoth hdo hcl hLi
                refine guard_on (j := 5) (want := true) (d := 125) (by rfl) (by rfl) gg ?_
                go_simp
                exact hK _ _ (flat_mark (hR.1) (fun _ _ h => h) hR.2 rfl)
              · have gg : us 5 = .bool true := hR.2 5 (done_at hdo 5 (by rfl))
                have s126 : b0.tmps.getD 126 undef = .int .i64 M := (hslot 6 126 (by rfl)).trans (hR.2 6 (done_at hdo 6 (by rfl)))
                have s127 : b0.tmps.getD 127 undef = .int .i64 HD := (hslot 7 127 (by rfl)).trans (hR.2 7 (done_at hdo 7 (by rfl)))
                have hle : M ≤ HD := HMF.out.1
                clear hslot hoth hdo hcl hLi
                refine guard_on (j := 5) (want := true) (d := 125) (by rfl) (by rfl) gg ?_
                go_simp
                exact hK _ _ (flat_mark (hR.1) (fun _ _ h => h) hR.2 rfl)
            · intro b0 us wz L hslot hoth hLi hR hcl hdo K hK
              rcases HL.out with ⟨rfl, hf⟩ | ⟨rfl, hf⟩
              · have s125 : b0.tmps.getD 125 undef = .bool true := (hslot 5 125 (by rfl)).trans (hR.2 5 (done_at hdo 5 (by rfl)))
                have s128 : b0.tmps.getD 128 undef = .bool true := (hslot 8 128 (by rfl)).trans (hR.2 8 (done_at hdo 8 (by rfl)))
                clear hslot hoth hdo hcl hLi
                refine guard_none (by rfl) ?_
                go_simp
                exact hK _ _ (flat_mark (hR.1) (fun _ _ h => h) hR.2 rfl)
              · have s125 : b0.tmps.getD 125 undef = .bool true := (hslot 5 125 (by rfl)).trans (hR.2 5 (done_at hdo 5 (by rfl)))
                have s128 : b0.tmps.getD 128 undef = .bool true := (hslot 8 128 (by rfl)).trans (hR.2 8 (done_at hdo 8 (by rfl)))
                clear hslot hoth hdo hcl hLi
                refine guard_none (by rfl) ?_
                go_simp
                exact hK _ _ (flat_mark (hR.1) (fun _ _ h => h) hR.2 rfl)
            · intro b0 us wz L hslot hoth hLi hR hcl hdo K hK
              rcases HL.out with ⟨rfl, hf⟩ | ⟨rfl, hf⟩
              · have s129 : b0.tmps.getD 129 undef = .bool true := (hslot 9 129 (by rfl)).trans (hR.2 9 (done_at hdo 9 (by rfl)))
                clear hslot hoth hdo hcl hLi
                refine guard_none (by rfl) ?_
                go_simp
                exact hK _ _ (flat_mark (hR.1) (fun _ _ h => h) hR.2 rfl)
              · have s129 : b0.tmps.getD 129 undef = .bool true := (hslot 9 129 (by rfl)).trans (hR.2 9 (done_at hdo 9 (by rfl)))
                clear hslot hoth hdo hcl hLi
                refine guard_none (by rfl) ?_
                go_simp
                exact hK _ _ (flat_mark (hR.1) (fun _ _ h => h) hR.2 rfl)
            · intro b0 us wz L hslot hoth hLi hR hcl hdo K hK
              rcases HL.out with ⟨rfl, hf⟩ | ⟨rfl, hf⟩
              · have gg : us 10 = .bool true := hR.2 10 (done_at hdo 10 (by rfl))
                have s5 : b0.tmps.getD 5 undef = .pointer (some ⟨gb, 0, none⟩) := hoth 5 (by rfl)
                clear hslot hoth hdo hcl hLi
                refine guard_on (j := 10) (want := true) (d := 130) (by rfl) (by rfl) gg ?_
                go_simp
                exact hK _ _ (flat_mark (hR.1) (fun _ _ h => h) hR.2 rfl)
              · have gg : us 10 = .bool true := hR.2 10 (done_at hdo 10 (by rfl))
                have s5 : b0.tmps.getD 5 undef = .pointer (some ⟨gb, 0, none⟩) := hoth 5 (by rfl)
                clear hslot hoth hdo hcl hLi
                refine guard_on (j := 10) (want := true) (d := 130) (by rfl) (by rfl) gg ?_
                go_simp
                exact hK _ _ (flat_mark (hR.1) (fun _ _ h => h) hR.2 rfl)
            · intro b0 us wz L hslot hoth hLi hR hcl hdo K hK
              rcases HL.out with ⟨rfl, hf⟩ | ⟨rfl, hf⟩
              · have gg : us 10 = .bool true := hR.2 10 (done_at hdo 10 (by rfl))
                have s131 : b0.tmps.getD 131 undef = .pointer (some ⟨gb, 4, none⟩) := (hslot 11 131 (by rfl)).trans (hR.2 11 (done_at hdo 11 (by rfl)))
                have t0 := (hR.1.box).c0
                have t1 := (hR.1.box).c1
                have t2 := (hR.1.box).c2
                have t3 := (hR.1.box).c3
                have t4 := (hR.1.box).c4
                have t5 := (hR.1.box).c5
                clear hslot hoth hdo hcl hLi
                refine guard_on (j := 10) (want := true) (d := 130) (by rfl) (by rfl) gg ?_
                go_simp
                exact hK _ _ (flat_mark (hR.1) (fun _ _ h => h) hR.2 rfl)
              · have gg : us 10 = .bool true := hR.2 10 (done_at hdo 10 (by rfl))
                have s131 : b0.tmps.getD 131 undef = .pointer (some ⟨gb, 4, none⟩) := (hslot 11 131 (by rfl)).trans (hR.2 11 (done_at hdo 11 (by rfl)))
                have t0 := (hR.1.box).c0
                have t1 := (hR.1.box).c1
                have t2 := (hR.1.box).c2
                have t3 := (hR.1.box).c3
                have t4 := (hR.1.box).c4
                have t5 := (hR.1.box).c5
                clear hslot hoth hdo hcl hLi
                refine guard_on (j := 10) (want := true) (d := 130) (by rfl) (by rfl) gg ?_
                go_simp
                exact hK _ _ (flat_mark (hR.1) (fun _ _ h => h) hR.2 rfl)
            · intro b0 us wz L hslot hoth hLi hR hcl hdo K hK
              rcases HL.out with ⟨rfl, hf⟩ | ⟨rfl, hf⟩
              · have gg : us 10 = .bool true := hR.2 10 (done_at hdo 10 (by rfl))
                have s132 : b0.tmps.getD 132 undef = .int .i64 k := (hslot 12 132 (by rfl)).trans (hR.2 12 (done_at hdo 12 (by rfl)))
                have hk1 : (k != 1) = false := by have := hf.out; simp; omega
                clear hslot hoth hdo hcl hLi
                refine guard_on (j := 10) (want := true) (d := 130) (by rfl) (by rfl) gg ?_
                go_simp
                exact hK _ _ (flat_mark (hR.1) (fun _ _ h => h) hR.2 rfl)
              · have gg : us 10 = .bool true := hR.2 10 (done_at hdo 10 (by rfl))
                have s132 : b0.tmps.getD 132 undef = .int .i64 k := (hslot 12 132 (by rfl)).trans (hR.2 12 (done_at hdo 12 (by rfl)))
                have hk1 : (k != 1) = true := by have := hf.out; simp; omega
                clear hslot hoth hdo hcl hLi
                refine guard_on (j := 10) (want := true) (d := 130) (by rfl) (by rfl) gg ?_
                go_simp
                exact hK _ _ (flat_mark (hR.1) (fun _ _ h => h) hR.2 rfl)
            · intro b0 us wz L hslot hoth hLi hR hcl hdo K hK
              rcases HL.out with ⟨rfl, hf⟩ | ⟨rfl, hf⟩
              · have gg : us 10 = .bool true := hR.2 10 (done_at hdo 10 (by rfl))
                have s133 : b0.tmps.getD 133 undef = .bool false := (hslot 13 133 (by rfl)).trans (hR.2 13 (done_at hdo 13 (by rfl)))
                clear hslot hoth hdo hcl hLi
                refine guard_on (j := 10) (want := true) (d := 130) (by rfl) (by rfl) gg ?_
                go_simp
                exact hK _ _ (flat_mark (hR.1) (fun _ _ h => h) hR.2 rfl)
              · have gg : us 10 = .bool true := hR.2 10 (done_at hdo 10 (by rfl))
                have s133 : b0.tmps.getD 133 undef = .bool true := (hslot 13 133 (by rfl)).trans (hR.2 13 (done_at hdo 13 (by rfl)))
                clear hslot hoth hdo hcl hLi
                refine guard_on (j := 10) (want := true) (d := 130) (by rfl) (by rfl) gg ?_
                go_simp
                exact hK _ _ (flat_mark (hR.1) (fun _ _ h => h) hR.2 rfl)
            · intro b0 us wz L hslot hoth hLi hR hcl hdo K hK
              rcases HL.out with ⟨rfl, hf⟩ | ⟨rfl, hf⟩
              · have gg : us 14 = .bool false := hR.2 14 (done_at hdo 14 (by rfl))
                have s7 : b0.tmps.getD 7 undef = .int .i64 M := hoth 7 (by rfl)
                clear hslot hoth hdo hcl hLi
                refine guard_on (j := 14) (want := false) (d := 134) (by rfl) (by rfl) gg ?_
                go_simp
                exact hK _ _ (flat_mark (hR.1) (fun _ _ h => h) hR.2 rfl)
              · have gg : us 14 = .bool true := hR.2 14 (done_at hdo 14 (by rfl))
                refine guard_off (j := 14) (want := false) (d := 134) (by rfl) (by rfl) gg (by rfl) ?_
                exact hK undef _ (flat_mark (hR.1) (fun _ _ h => h) hR.2 rfl)
            · intro b0 us wz L hslot hoth hLi hR hcl hdo K hK
              rcases HL.out with ⟨rfl, hf⟩ | ⟨rfl, hf⟩
              · have gg : us 14 = .bool false := hR.2 14 (done_at hdo 14 (by rfl))
                have s5 : b0.tmps.getD 5 undef = .pointer (some ⟨gb, 0, none⟩) := hoth 5 (by rfl)
                clear hslot hoth hdo hcl hLi
                refine guard_on (j := 14) (want := false) (d := 134) (by rfl) (by rfl) gg ?_
                go_simp
                exact hK _ _ (flat_mark (hR.1) (fun _ _ h => h) hR.2 rfl)
              · have gg : us 14 = .bool true := hR.2 14 (done_at hdo 14 (by rfl))
                refine guard_off (j := 14) (want := false) (d := 134) (by rfl) (by rfl) gg (by rfl) ?_
                exact hK undef _ (flat_mark (hR.1) (fun _ _ h => h) hR.2 rfl)
            · intro b0 us wz L hslot hoth hLi hR hcl hdo K hK
              rcases HL.out with ⟨rfl, hf⟩ | ⟨rfl, hf⟩
              · have gg : us 14 = .bool false := hR.2 14 (done_at hdo 14 (by rfl))
                have s136 : b0.tmps.getD 136 undef = .pointer (some ⟨gb, 5, none⟩) := (hslot 16 136 (by rfl)).trans (hR.2 16 (done_at hdo 16 (by rfl)))
                have t0 := (hR.1.box).c0
                have t1 := (hR.1.box).c1
                have t2 := (hR.1.box).c2
                have t3 := (hR.1.box).c3
                have t4 := (hR.1.box).c4
                have t5 := (hR.1.box).c5
                clear hslot hoth hdo hcl hLi
                refine guard_on (j := 14) (want := false) (d := 134) (by rfl) (by rfl) gg ?_
                go_simp
                exact hK _ _ (flat_mark (hR.1) (fun _ _ h => h) hR.2 rfl)
              · have gg : us 14 = .bool true := hR.2 14 (done_at hdo 14 (by rfl))
                refine guard_off (j := 14) (want := false) (d := 134) (by rfl) (by rfl) gg (by rfl) ?_
                exact hK undef _ (flat_mark (hR.1) (fun _ _ h => h) hR.2 rfl)
            · intro b0 us wz L hslot hoth hLi hR hcl hdo K hK
              rcases HL.out with ⟨rfl, hf⟩ | ⟨rfl, hf⟩
              · have gg : us 14 = .bool false := hR.2 14 (done_at hdo 14 (by rfl))
                have s135 : b0.tmps.getD 135 undef = .int .i64 M := (hslot 15 135 (by rfl)).trans (hR.2 15 (done_at hdo 15 (by rfl)))
                have s137 : b0.tmps.getD 137 undef = .int .i64 t := (hslot 17 137 (by rfl)).trans (hR.2 17 (done_at hdo 17 (by rfl)))
                have hle : M ≤ t := HMF.out.2 hf.out
                clear hslot hoth hdo hcl hLi
                refine guard_on (j := 14) (want := false) (d := 134) (by rfl) (by rfl) gg ?_
                go_simp
                exact hK _ _ (flat_mark (hR.1) (fun _ _ h => h) hR.2 rfl)
              · have gg : us 14 = .bool true := hR.2 14 (done_at hdo 14 (by rfl))
                refine guard_off (j := 14) (want := false) (d := 134) (by rfl) (by rfl) gg (by rfl) ?_
                exact hK undef _ (flat_mark (hR.1) (fun _ _ h => h) hR.2 rfl)
            · intro b0 us wz L hslot hoth hLi hR hcl hdo K hK
              rcases HL.out with ⟨rfl, hf⟩ | ⟨rfl, hf⟩
              · have gg : us 10 = .bool true := hR.2 10 (done_at hdo 10 (by rfl))
                have s134 : b0.tmps.getD 134 undef = .bool false := (hslot 14 134 (by rfl)).trans (hR.2 14 (done_at hdo 14 (by rfl)))
                have s138 : b0.tmps.getD 138 undef = .bool true := (hslot 18 138 (by rfl)).trans (hR.2 18 (done_at hdo 18 (by rfl)))
                clear hslot hoth hdo hcl hLi
                refine guard_on (j := 10) (want := true) (d := 130) (by rfl) (by rfl) gg ?_
                go_simp
                exact hK _ _ (flat_mark (hR.1) (fun _ _ h => h) hR.2 rfl)
              · have gg : us 10 = .bool true := hR.2 10 (done_at hdo 10 (by rfl))
                have s134 : b0.tmps.getD 134 undef = .bool true := (hslot 14 134 (by rfl)).trans (hR.2 14 (done_at hdo 14 (by rfl)))
                have s138 : b0.tmps.getD 138 undef = undef := (hslot 18 138 (by rfl)).trans (hR.2 18 (done_at hdo 18 (by rfl)))
                clear hslot hoth hdo hcl hLi
                refine guard_on (j := 10) (want := true) (d := 130) (by rfl) (by rfl) gg ?_
                go_simp
                exact hK _ _ (flat_mark (hR.1) (fun _ _ h => h) hR.2 rfl)
            · intro b0 us wz L hslot hoth hLi hR hcl hdo K hK
              rcases HL.out with ⟨rfl, hf⟩ | ⟨rfl, hf⟩
              · have s130 : b0.tmps.getD 130 undef = .bool true := (hslot 10 130 (by rfl)).trans (hR.2 10 (done_at hdo 10 (by rfl)))
                have s139 : b0.tmps.getD 139 undef = .bool true := (hslot 19 139 (by rfl)).trans (hR.2 19 (done_at hdo 19 (by rfl)))
                clear hslot hoth hdo hcl hLi
                refine guard_none (by rfl) ?_
                go_simp
                exact hK _ _ (flat_mark (hR.1) (fun _ _ h => h) hR.2 rfl)
              · have s130 : b0.tmps.getD 130 undef = .bool true := (hslot 10 130 (by rfl)).trans (hR.2 10 (done_at hdo 10 (by rfl)))
                have s139 : b0.tmps.getD 139 undef = .bool true := (hslot 19 139 (by rfl)).trans (hR.2 19 (done_at hdo 19 (by rfl)))
                clear hslot hoth hdo hcl hLi
                refine guard_none (by rfl) ?_
                go_simp
                exact hK _ _ (flat_mark (hR.1) (fun _ _ h => h) hR.2 rfl)
            · intro b0 us wz L hslot hoth hLi hR hcl hdo K hK
              rcases HL.out with ⟨rfl, hf⟩ | ⟨rfl, hf⟩
              · have s140 : b0.tmps.getD 140 undef = .bool true := (hslot 20 140 (by rfl)).trans (hR.2 20 (done_at hdo 20 (by rfl)))
                clear hslot hoth hdo hcl hLi
                refine guard_none (by rfl) ?_
                go_simp
                exact hK _ _ (flat_mark (hR.1) (fun _ _ h => h) hR.2 rfl)
              · have s140 : b0.tmps.getD 140 undef = .bool true := (hslot 20 140 (by rfl)).trans (hR.2 20 (done_at hdo 20 (by rfl)))
                clear hslot hoth hdo hcl hLi
                refine guard_none (by rfl) ?_
                go_simp
                exact hK _ _ (flat_mark (hR.1) (fun _ _ h => h) hR.2 rfl)
            · intro b0 us wz L hslot hoth hLi hR hcl hdo K hK
              rcases HL.out with ⟨rfl, hf⟩ | ⟨rfl, hf⟩
              · have gg : us 21 = .bool true := hR.2 21 (done_at hdo 21 (by rfl))
                have s7 : b0.tmps.getD 7 undef = .int .i64 M := hoth 7 (by rfl)
                clear hslot hoth hdo hcl hLi
                refine guard_on (j := 21) (want := true) (d := 141) (by rfl) (by rfl) gg ?_
                go_simp
                exact hK _ _ (flat_mark (hR.1) (fun _ _ h => h) hR.2 rfl)
              · have gg : us 21 = .bool true := hR.2 21 (done_at hdo 21 (by rfl))
                have s7 : b0.tmps.getD 7 undef = .int .i64 M := hoth 7 (by rfl)
                clear hslot hoth hdo hcl hLi
                refine guard_on (j := 21) (want := true) (d := 141) (by rfl) (by rfl) gg ?_
                go_simp
                exact hK _ _ (flat_mark (hR.1) (fun _ _ h => h) hR.2 rfl)
            · intro b0 us wz L hslot hoth hLi hR hcl hdo K hK
              rcases HL.out with ⟨rfl, hf⟩ | ⟨rfl, hf⟩
              · have gg : us 21 = .bool true := hR.2 21 (done_at hdo 21 (by rfl))
                have s5 : b0.tmps.getD 5 undef = .pointer (some ⟨gb, 0, none⟩) := hoth 5 (by rfl)
                have t0 := (hR.1.box).c0
                have t1 := (hR.1.box).c1
                have t2 := (hR.1.box).c2
                have t3 := (hR.1.box).c3
                have t4 := (hR.1.box).c4
                have t5 := (hR.1.box).c5
                clear hslot hoth hdo hcl hLi
                refine guard_on (j := 21) (want := true) (d := 141) (by rfl) (by rfl) gg ?_
                go_simp
                exact hK _ _ (flat_mark (hR.1) (fun _ _ h => h) hR.2 rfl)
              · have gg : us 21 = .bool true := hR.2 21 (done_at hdo 21 (by rfl))
                have s5 : b0.tmps.getD 5 undef = .pointer (some ⟨gb, 0, none⟩) := hoth 5 (by rfl)
                have t0 := (hR.1.box).c0
                have t1 := (hR.1.box).c1
                have t2 := (hR.1.box).c2
                have t3 := (hR.1.box).c3
                have t4 := (hR.1.box).c4
                have t5 := (hR.1.box).c5
                clear hslot hoth hdo hcl hLi
                refine guard_on (j := 21) (want := true) (d := 141) (by rfl) (by rfl) gg ?_
                go_simp
                exact hK _ _ (flat_mark (hR.1) (fun _ _ h => h) hR.2 rfl)
            · intro b0 us wz L hslot hoth hLi hR hcl hdo K hK
              rcases HL.out with ⟨rfl, hf⟩ | ⟨rfl, hf⟩
              · have gg : us 21 = .bool true := hR.2 21 (done_at hdo 21 (by rfl))
                have s3 : b0.tmps.getD 3 undef = .slice (some ⟨gw, 0, none⟩) n c0 := hoth 3 (by rfl)
                clear hslot hoth hdo hcl hLi
                refine guard_on (j := 21) (want := true) (d := 141) (by rfl) (by rfl) gg ?_
                go_simp
                exact hK _ _ (flat_mark (hR.1) (fun _ _ h => h) hR.2 rfl)
              · have gg : us 21 = .bool true := hR.2 21 (done_at hdo 21 (by rfl))
                have s3 : b0.tmps.getD 3 undef = .slice (some ⟨gw, 0, none⟩) n c0 := hoth 3 (by rfl)
                clear hslot hoth hdo hcl hLi
                refine guard_on (j := 21) (want := true) (d := 141) (by rfl) (by rfl) gg ?_
                go_simp
                exact hK _ _ (flat_mark (hR.1) (fun _ _ h => h) hR.2 rfl)
            · intro b0 us wz L hslot hoth hLi hR hcl hdo K hK
              rcases HL.out with ⟨rfl, hf⟩ | ⟨rfl, hf⟩
              · have gg : us 21 = .bool true := hR.2 21 (done_at hdo 21 (by rfl))
                have s4 : b0.tmps.getD 4 undef = .int .i64 (m : Int) := hoth 4 (by rfl)
                clear hslot hoth hdo hcl hLi
                refine guard_on (j := 21) (want := true) (d := 141) (by rfl) (by rfl) gg ?_
                go_simp
                exact hK _ _ (flat_mark (hR.1) (fun _ _ h => h) hR.2 rfl)
              · have gg : us 21 = .bool true := hR.2 21 (done_at hdo 21 (by rfl))
                have s4 : b0.tmps.getD 4 undef = .int .i64 (m : Int) := hoth 4 (by rfl)
                clear hslot hoth hdo hcl hLi
                refine guard_on (j := 21) (want := true) (d := 141) (by rfl) (by rfl) gg ?_
                go_simp
                exact hK _ _ (flat_mark (hR.1) (fun _ _ h => h) hR.2 rfl)
            · intro b0 us wz L hslot hoth hLi hR hcl hdo K hK
              rcases HL.out with ⟨rfl, hf⟩ | ⟨rfl, hf⟩
              · have gg : us 21 = .bool true := hR.2 21 (done_at hdo 21 (by rfl))
                have s144 : b0.tmps.getD 144 undef = .slice (some ⟨gw, 0, none⟩) n c0 := (hslot 24 144 (by rfl)).trans (hR.2 24 (done_at hdo 24 (by rfl)))
                have s145 : b0.tmps.getD 145 undef = .int .i64 (m : Int) := (hslot 25 145 (by rfl)).trans (hR.2 25 (done_at hdo 25 (by rfl)))
                have hin : m < n := HIN.out.1
                have hcl : n ≤ c0 := HIN.out.2.2
                clear hslot hoth hdo hcl hLi
                refine guard_on (j := 21) (want := true) (d := 141) (by rfl) (by rfl) gg ?_
                go_simp
                exact hK _ _ (flat_mark (hR.1) (fun _ _ h => h) hR.2 rfl)
              · have gg : us 21 = .bool true := hR.2 21 (done_at hdo 21 (by rfl))
                have s144 : b0.tmps.getD 144 undef = .slice (some ⟨gw, 0, none⟩) n c0 := (hslot 24 144 (by rfl)).trans (hR.2 24 (done_at hdo 24 (by rfl)))
                have s145 : b0.tmps.getD 145 undef = .int .i64 (m : Int) := (hslot 25 145 (by rfl)).trans (hR.2 25 (done_at hdo 25 (by rfl)))
                have hin : m < n := HIN.out.1
                have hcl : n ≤ c0 := HIN.out.2.2
                clear hslot hoth hdo hcl hLi
                refine guard_on (j := 21) (want := true) (d := 141) (by rfl) (by rfl) gg ?_
                go_simp
                exact hK _ _ (flat_mark (hR.1) (fun _ _ h => h) hR.2 rfl)
            · intro b0 us wz L hslot hoth hLi hR hcl hdo K hK
              rcases HL.out with ⟨rfl, hf⟩ | ⟨rfl, hf⟩
              · have gg : us 21 = .bool true := hR.2 21 (done_at hdo 21 (by rfl))
                have s146 : b0.tmps.getD 146 undef = .pointer (some ⟨gw, m, none⟩) := (hslot 26 146 (by rfl)).trans (hR.2 26 (done_at hdo 26 (by rfl)))
                clear hslot hoth hdo hcl hLi
                refine guard_on (j := 21) (want := true) (d := 141) (by rfl) (by rfl) gg ?_
                go_simp
                exact hK _ _ (flat_mark (hR.1) (fun _ _ h => h) hR.2 rfl)
              · have gg : us 21 = .bool true := hR.2 21 (done_at hdo 21 (by rfl))
                have s146 : b0.tmps.getD 146 undef = .pointer (some ⟨gw, m, none⟩) := (hslot 26 146 (by rfl)).trans (hR.2 26 (done_at hdo 26 (by rfl)))
                clear hslot hoth hdo hcl hLi
                refine guard_on (j := 21) (want := true) (d := 141) (by rfl) (by rfl) gg ?_
                go_simp
                exact hK _ _ (flat_mark (hR.1) (fun _ _ h => h) hR.2 rfl)
            · intro b0 us wz L hslot hoth hLi hR hcl hdo K hK
              rcases HL.out with ⟨rfl, hf⟩ | ⟨rfl, hf⟩
              · have gg : us 21 = .bool true := hR.2 21 (done_at hdo 21 (by rfl))
                have s147 : b0.tmps.getD 147 undef = .pointer (some ⟨gw, m, none⟩) := (hslot 27 147 (by rfl)).trans (hR.2 27 (done_at hdo 27 (by rfl)))
                have hc := HCE.out.1 wz hR.1.below
                clear hslot hoth hdo hcl hLi
                refine guard_on (j := 21) (want := true) (d := 141) (by rfl) (by rfl) gg ?_
                go_simp
                exact hK _ _ (flat_mark (hR.1) (fun _ _ h => h) hR.2 rfl)
              · have gg : us 21 = .bool true := hR.2 21 (done_at hdo 21 (by rfl))
                have s147 : b0.tmps.getD 147 undef = .pointer (some ⟨gw, m, none⟩) := (hslot 27 147 (by rfl)).trans (hR.2 27 (done_at hdo 27 (by rfl)))
                have hc := HCE.out.1 wz hR.1.below
                clear hslot hoth hdo hcl hLi
                refine guard_on (j := 21) (want := true) (d := 141) (by rfl) (by rfl) gg ?_
                go_simp
                exact hK _ _ (flat_mark (hR.1) (fun _ _ h => h) hR.2 rfl)
            · intro b0 us wz L hslot hoth hLi hR hcl hdo K hK
              rcases HL.out with ⟨rfl, hf⟩ | ⟨rfl, hf⟩
              · have gg : us 21 = .bool true := hR.2 21 (done_at hdo 21 (by rfl))
                have s5 : b0.tmps.getD 5 undef = .pointer (some ⟨gb, 0, none⟩) := hoth 5 (by rfl)
                clear hslot hoth hdo hcl hLi
                refine guard_on (j := 21) (want := true) (d := 141) (by rfl) (by rfl) gg ?_
                go_simp
                exact hK _ _ (flat_mark (hR.1) (fun _ _ h => h) hR.2 rfl)
              · have gg : us 21 = .bool true := hR.2 21 (done_at hdo 21 (by rfl))
                have s5 : b0.tmps.getD 5 undef = .pointer (some ⟨gb, 0, none⟩) := hoth 5 (by rfl)
                clear hslot hoth hdo hcl hLi
                refine guard_on (j := 21) (want := true) (d := 141) (by rfl) (by rfl) gg ?_
                go_simp
                exact hK _ _ (flat_mark (hR.1) (fun _ _ h => h) hR.2 rfl)
            · intro b0 us wz L hslot hoth hLi hR hcl hdo K hK
              rcases HL.out with ⟨rfl, hf⟩ | ⟨rfl, hf⟩
              · have gg : us 21 = .bool true := hR.2 21 (done_at hdo 21 (by rfl))
                have s149 : b0.tmps.getD 149 undef = .pointer (some ⟨gb, 0, none⟩) := (hslot 29 149 (by rfl)).trans (hR.2 29 (done_at hdo 29 (by rfl)))
                have t0 := (hR.1.box).c0
                have t1 := (hR.1.box).c1
                have t2 := (hR.1.box).c2
                have t3 := (hR.1.box).c3
                have t4 := (hR.1.box).c4
                have t5 := (hR.1.box).c5
                clear hslot hoth hdo hcl hLi
                refine guard_on (j := 21) (want := true) (d := 141) (by rfl) (by rfl) gg ?_
                go_simp
                exact hK _ _ (flat_mark (hR.1) (fun _ _ h => h) hR.2 rfl)
              · have gg : us 21 = .bool true := hR.2 21 (done_at hdo 21 (by rfl))
                have s149 : b0.tmps.getD 149 undef = .pointer (some ⟨gb, 0, none⟩) := (hslot 29 149 (by rfl)).trans (hR.2 29 (done_at hdo 29 (by rfl)))
                have t0 := (hR.1.box).c0
                have t1 := (hR.1.box).c1
                have t2 := (hR.1.box).c2
                have t3 := (hR.1.box).c3
                have t4 := (hR.1.box).c4
                have t5 := (hR.1.box).c5
                clear hslot hoth hdo hcl hLi
                refine guard_on (j := 21) (want := true) (d := 141) (by rfl) (by rfl) gg ?_
                go_simp
                exact hK _ _ (flat_mark (hR.1) (fun _ _ h => h) hR.2 rfl)
            · intro b0 us wz L hslot hoth hLi hR hcl hdo K hK
              rcases HL.out with ⟨rfl, hf⟩ | ⟨rfl, hf⟩
              · have gg : us 21 = .bool true := hR.2 21 (done_at hdo 21 (by rfl))
                have s148 : b0.tmps.getD 148 undef = .slice (some ql) 5 lc := (hslot 28 148 (by rfl)).trans (hR.2 28 (done_at hdo 28 (by rfl)))
                have s150 : b0.tmps.getD 150 undef = .int .i64 (rn : Int) := (hslot 30 150 (by rfl)).trans (hR.2 30 (done_at hdo 30 (by rfl)))
                have hr5 : rn < 5 := HR5.out.1
                have hri : (rn : Int) < 5 := by omega
                have hqr : ql.add (rn * 5) = qr := HR5.out.2.1
                have hqc : 5 ≤ lc := HR5.out.2.2
                clear hslot hoth hdo hcl hLi
                refine guard_on (j := 21) (want := true) (d := 141) (by rfl) (by rfl) gg ?_
                go_simp
                exact hK _ _ (flat_mark (hR.1) (fun _ _ h => h) hR.2 rfl)
              · have gg : us 21 = .bool true := hR.2 21 (done_at hdo 21 (by rfl))
                have s148 : b0.tmps.getD 148 undef = .slice (some ql) 5 lc := (hslot 28 148 (by rfl)).trans (hR.2 28 (done_at hdo 28 (by rfl)))
                have s150 : b0.tmps.getD 150 undef = .int .i64 (rn : Int) := (hslot 30 150 (by rfl)).trans (hR.2 30 (done_at hdo 30 (by rfl)))
                have hr5 : rn < 5 := HR5.out.1
                have hri : (rn : Int) < 5 := by omega
                have hqr : ql.add (rn * 5) = qr := HR5.out.2.1
                have hqc : 5 ≤ lc := HR5.out.2.2
                clear hslot hoth hdo hcl hLi
                refine guard_on (j := 21) (want := true) (d := 141) (by rfl) (by rfl) gg ?_
                go_simp
                exact hK _ _ (flat_mark (hR.1) (fun _ _ h => h) hR.2 rfl)
            · intro b0 us wz L hslot hoth hLi hR hcl hdo K hK
              rcases HL.out with ⟨rfl, hf⟩ | ⟨rfl, hf⟩
              · have gg : us 21 = .bool true := hR.2 21 (done_at hdo 21 (by rfl))
                have s151 : b0.tmps.getD 151 undef = .pointer (some qr) := (hslot 31 151 (by rfl)).trans (hR.2 31 (done_at hdo 31 (by rfl)))
                clear hslot hoth hdo hcl hLi
                refine guard_on (j := 21) (want := true) (d := 141) (by rfl) (by rfl) gg ?_
                go_simp
                exact hK _ _ (flat_mark (hR.1) (fun _ _ h => h) hR.2 rfl)
              · have gg : us 21 = .bool true := hR.2 21 (done_at hdo 21 (by rfl))
                have s151 : b0.tmps.getD 151 undef = .pointer (some qr) := (hslot 31 151 (by rfl)).trans (hR.2 31 (done_at hdo 31 (by rfl)))
                clear hslot hoth hdo hcl hLi
                refine guard_on (j := 21) (want := true) (d := 141) (by rfl) (by rfl) gg ?_
                go_simp
                exact hK _ _ (flat_mark (hR.1) (fun _ _ h => h) hR.2 rfl)
            · intro b0 us wz L hslot hoth hLi hR hcl hdo K hK
              rcases HL.out with ⟨rfl, hf⟩ | ⟨rfl, hf⟩
              · have gg : us 21 = .bool true := hR.2 21 (done_at hdo 21 (by rfl))
                have s152 : b0.tmps.getD 152 undef = .pointer (some ⟨qr.block, qr.off + 2, none⟩) := (hslot 32 152 (by rfl)).trans (hR.2 32 (done_at hdo 32 (by rfl)))
                have cc := HCE.out.2 _ hR.1.below
                have k2 := cc.c2
                have k3 := cc.c3
                have k4 := cc.c4
                simp only at k2 k3 k4
                clear cc
                clear hslot hoth hdo hcl hLi
                refine guard_on (j := 21) (want := true) (d := 141) (by rfl) (by rfl) gg ?_
                go_simp
                exact hK _ _ (flat_mark (hR.1) (fun _ _ h => h) hR.2 rfl)
              · have gg : us 21 = .bool true := hR.2 21 (done_at hdo 21 (by rfl))
                have s152 : b0.tmps.getD 152 undef = .pointer (some ⟨qr.block, qr.off + 2, none⟩) := (hslot 32 152 (by rfl)).trans (hR.2 32 (done_at hdo 32 (by rfl)))
                have cc := HCE.out.2 _ hR.1.below
                have k2 := cc.c2
                have k3 := cc.c3
                have k4 := cc.c4
                simp only at k2 k3 k4
                clear cc
                clear hslot hoth hdo hcl hLi
                refine guard_on (j := 21) (want := true) (d := 141) (by rfl) (by rfl) gg ?_
                go_simp
                exact hK _ _ (flat_mark (hR.1) (fun _ _ h => h) hR.2 rfl)
            · intro b0 us wz L hslot hoth hLi hR hcl hdo K hK
              rcases HL.out with ⟨rfl, hf⟩ | ⟨rfl, hf⟩
              · have gg : us 21 = .bool true := hR.2 21 (done_at hdo 21 (by rfl))
                have s143 : b0.tmps.getD 143 undef = tapV (rn : Int) (pn : Int) q h k t := (hslot 23 143 (by rfl)).trans (hR.2 23 (done_at hdo 23 (by rfl)))
                have s153 : b0.tmps.getD 153 undef = amt ra rb rc := (hslot 33 153 (by rfl)).trans (hR.2 33 (done_at hdo 33 (by rfl)))
                clear hslot hoth hdo hcl hLi
                refine guard_on (j := 21) (want := true) (d := 141) (by rfl) (by rfl) gg ?_
                go_simp
                refine (CF.out wz).mono ?_
                rintro e w' ⟨rfl, hb⟩
                exact hK _ _ (flat_mark (hR.1.on hb) (fun _ _ h => h) hR.2 rfl)
              · have gg : us 21 = .bool true := hR.2 21 (done_at hdo 21 (by rfl))
                have s143 : b0.tmps.getD 143 undef = tapV (rn : Int) (pn : Int) q h k t := (hslot 23 143 (by rfl)).trans (hR.2 23 (done_at hdo 23 (by rfl)))
                have s153 : b0.tmps.getD 153 undef = amt ra rb rc := (hslot 33 153 (by rfl)).trans (hR.2 33 (done_at hdo 33 (by rfl)))
                clear hslot hoth hdo hcl hLi
                refine guard_on (j := 21) (want := true) (d := 141) (by rfl) (by rfl) gg ?_
                go_simp
                refine (CF.out wz).mono ?_
                rintro e w' ⟨rfl, hb⟩
                exact hK _ _ (flat_mark (hR.1.on hb) (fun _ _ h => h) hR.2 rfl)
            · intro b0 us wz L hslot hoth hLi hR hcl hdo K hK
              rcases HL.out with ⟨rfl, hf⟩ | ⟨rfl, hf⟩
              · have gg : us 21 = .bool true := hR.2 21 (done_at hdo 21 (by rfl))
                have s142 : b0.tmps.getD 142 undef = .int .i64 M := (hslot 22 142 (by rfl)).trans (hR.2 22 (done_at hdo 22 (by rfl)))
                have s154 : b0.tmps.getD 154 undef = .int .i64 M := (hslot 34 154 (by rfl)).trans (hR.2 34 (done_at hdo 34 (by rfl)))
                clear hslot hoth hdo hcl hLi
                refine guard_on (j := 21) (want := true) (d := 141) (by rfl) (by rfl) gg ?_
                go_simp
                exact hK _ _ (flat_mark (hR.1) (fun _ _ h => h) hR.2 rfl)
              · have gg : us 21 = .bool true := hR.2 21 (done_at hdo 21 (by rfl))
                have s142 : b0.tmps.getD 142 undef = .int .i64 M := (hslot 22 142 (by rfl)).trans (hR.2 22 (done_at hdo 22 (by rfl)))
                have s154 : b0.tmps.getD 154 undef = .int .i64 M := (hslot 34 154 (by rfl)).trans (hR.2 34 (done_at hdo 34 (by rfl)))
                clear hslot hoth hdo hcl hLi
                refine guard_on (j := 21) (want := true) (d := 141) (by rfl) (by rfl) gg ?_
                go_simp
                exact hK _ _ (flat_mark (hR.1) (fun _ _ h => h) hR.2 rfl)
            · intro b0 us wz L hslot hoth hLi hR hcl hdo K hK
              rcases HL.out with ⟨rfl, hf⟩ | ⟨rfl, hf⟩
              · have s141 : b0.tmps.getD 141 undef = .bool true := (hslot 21 141 (by rfl)).trans (hR.2 21 (done_at hdo 21 (by rfl)))
                have s155 : b0.tmps.getD 155 undef = .bool true := (hslot 35 155 (by rfl)).trans (hR.2 35 (done_at hdo 35 (by rfl)))
                clear hslot hoth hdo hcl hLi
                refine guard_none (by rfl) ?_
                go_simp
                exact hK _ _ (flat_mark (hR.1) (fun _ _ h => h) hR.2 rfl)
              · have s141 : b0.tmps.getD 141 undef = .bool true := (hslot 21 141 (by rfl)).trans (hR.2 21 (done_at hdo 21 (by rfl)))
                have s155 : b0.tmps.getD 155 undef = .bool true := (hslot 35 155 (by rfl)).trans (hR.2 35 (done_at hdo 35 (by rfl)))
                clear hslot hoth hdo hcl hLi
                refine guard_none (by rfl) ?_
                go_simp
                exact hK _ _ (flat_mark (hR.1) (fun _ _ h => h) hR.2 rfl)
            · intro b0 us wz L hslot hoth hLi hR hcl hdo K hK
              rcases HL.out with ⟨rfl, hf⟩ | ⟨rfl, hf⟩
              · have s156 : b0.tmps.getD 156 undef = .bool true := (hslot 36 156 (by rfl)).trans (hR.2 36 (done_at hdo 36 (by rfl)))
                clear hslot hoth hdo hcl hLi
                refine guard_none (by rfl) ?_
                go_simp
                exact hK _ _ (flat_mark (hR.1) (fun _ _ h => h) hR.2 rfl)
              · have s156 : b0.tmps.getD 156 undef = .bool true := (hslot 36 156 (by rfl)).trans (hR.2 36 (done_at hdo 36 (by rfl)))
                clear hslot hoth hdo hcl hLi
                refine guard_none (by rfl) ?_
                go_simp
                exact hK _ _ (flat_mark (hR.1) (fun _ _ h => h) hR.2 rfl)
          · intro us wn L hall hR a' ha'
            have g37 : us 37 = .bool true := by
              have := hR.2 37 (hall 37 (by decide))
              rcases HL.out with ⟨rfl, _⟩ | ⟨rfl, _⟩
              all_goals exact this
            have HB := hid_of hR.1
            clear hR hall
            simp only [putAll, g37] at ha'
            subst ha'
            go_frame
            have HZ := hid_of (below_more HB3.out HB.out.below)
            clear HB HL l hL
            go_wp2
            go_ret
            exact ⟨rfl, HZ.out⟩
end Go.Proofs.YtfcenombphodbaaDoor
