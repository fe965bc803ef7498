/-
  What is brought to a place of an owned tree.
-/
import Derived.Test.YtfcenombphodbaaDoorITree
namespace Go.Proofs.YtfcenombphodbaaDoor
open Go.RowKit
set_option linter.unusedVariables false
set_option maxRecDepth 100000

theorem grownBy_below {w w1 w2 : World} {row : Option Nat} (h : w.grownBy w1 row) (hb : Below w1.heap.size w1 w2) : w.grownBy w2 row := by
  obtain ⟨a1, b1, c1, d1, e1⟩ := h
  exact ⟨hb.os.trans a1, hb.tape.trans b1, hb.output.trans c1, Nat.le_trans d1 hb.size, fun k hk hne => (hb.block k (by omega)).trans (e1 k hk hne)⟩
theorem grownBy_drew (w : World) (row : Option Nat) : w.grownBy w.drew row := ⟨rfl, rfl, rfl, Nat.le_refl _, fun _ _ _ => rfl⟩
theorem grownBy_more {w w1 w2 : World} {row : Option Nat} (hb : Below w.heap.size w w1) (h : w1.grownBy w2 row) : w.grownBy w2 row := by
  obtain ⟨a1, b1, c1, d1, e1⟩ := h
  exact ⟨a1.trans hb.os, b1.trans hb.tape, c1.trans hb.output, Nat.le_trans hb.size d1, fun k hk hne => (e1 k (by have := hb.size; omega) hne).trans (hb.block k hk)⟩
theorem TreeIn.drew {w : World} {g : Nat} {ts : List Re} {rs : List Value} (h : TreeIn w g ts rs) : TreeIn w.drew g ts rs := h
def addR (r : Re) (a b c : Int) : Re := ⟨r.live, r.par, r.a + a, r.b + b, r.c + c⟩
set_option maxRecDepth 100000 in
set_option maxHeartbeats 4000000 in
theorem implBring_any (g n cap : Nat) (ts : List Re) (rs : List Value) (m : Nat) (a b c : Int) (w : World) (ht : TreeIn w g ts rs) (hn : n = ts.length) (hcap : ts.length ≤ cap) (hm : m < ts.length) (hl : ts.length ≤ 1048576) (hadd : addOk (reAt ts m).a (reAt ts m).b (reAt ts m).c a b c = true) :
    Calls Tryd.prog 57 #[.slice (some ⟨g, 0, none⟩) n cap, .int .i64 (m : Int), amt a b c] w fun e w' => e = .returned (.tuple #[]) ∧ TreeIn w' g (ts.set m (addR (reAt ts m) a b c)) rs ∧ w.grownBy w' (some g) := by
  obtain ⟨r, hr⟩ : ∃ r, reAt ts m = r := ⟨_, rfl⟩
  have HR : Hid (reAt ts m = r) := hr
  rw [hr] at hadd ⊢
  obtain ⟨us1, hus1⟩ : ∃ u, u = ts.set m (addR r a b c) := ⟨_, rfl⟩
  have hPUT : ∀ wz, TreeIn wz g ts rs → TreeIn (((wz.setCell ⟨g, m * 5 + 2, none⟩ (.int .i64 (r.a + a))).setCell ⟨g, m * 5 + 3, none⟩ (.int .i64 (r.b + b))).setCell ⟨g, m * 5 + 4, none⟩ (.int .i64 (r.c + c))) g us1 rs := fun wz h => by
    have t2 := h.put2 m hm (r.a + a)
    have t3 := t2.put3 m (by simpa using hm) (r.b + b)
    rw [reAt_set _ _ _ hm, List.set_set] at t3
    have t4 := t3.put4 m (by simpa using hm) (r.c + c)
    rw [reAt_set _ _ _ hm, List.set_set, hr] at t4
    rw [hus1]
    exact t4
  rw [← hus1]
  clear hr hus1
  obtain ⟨l, p1, ra, rb, rc⟩ := r
  simp only at hadd hPUT
  have CA := fun w => implAdd_yes ra rb rc a b c w hadd
  obtain ⟨xa, hxa⟩ : ∃ x, x = ra + a := ⟨_, rfl⟩
  obtain ⟨xb, hxb⟩ : ∃ x, x = rb + b := ⟨_, rfl⟩
  obtain ⟨xc, hxc⟩ : ∃ x, x = rc + c := ⟨_, rfl⟩
  rw [← hxa, ← hxb, ← hxc] at CA hPUT
  clear hxa hxb hxc hadd
  have HPUT : Hid (∀ wz, TreeIn wz g ts rs → TreeIn (((wz.setCell ⟨g, m * 5 + 2, none⟩ (.int .i64 xa)).setCell ⟨g, m * 5 + 3, none⟩ (.int .i64 xb)).setCell ⟨g, m * 5 + 4, none⟩ (.int .i64 xc)) g us1 rs) := hPUT
  have HM : Hid (m < ts.length) := hm
  have hgw : g < w.heap.size := lt_of_block ht
  have HT : Hid (TreeIn (w.alloc (boxA a b c)) g ts rs) := ht.keep (below_alloc w _)
  have HX : Hid (Box3 (w.alloc (boxA a b c)) w.heap.size 37 a b c) := ⟨heap_alloc_new w _⟩
  have HNE : Hid (w.heap.size ≠ g) := by show _ ≠ _; omega
  have HBA : Hid (Below w.heap.size w (w.alloc (boxA a b c))) := below_alloc w _
  have hmn : (m : Int) < (n : Int) := by omega
  have hmn2 : m < n := by omega
  have hnc : n ≤ cap := by omega
  clear hPUT ht hgw hm hl hcap hn
  go_enter Tryd.func57, Tryd.ntmps57
  go_wp2_with fail
  obtain ⟨w1, hw1⟩ : ∃ x, x = w.alloc (boxA a b c) := ⟨_, rfl⟩
  rw [← hw1] at HT HX HBA ⊢
  obtain ⟨gb, hgb⟩ : ∃ x, x = w.heap.size := ⟨_, rfl⟩
  rw [← hgb] at HX HNE ⊢
  have HBA' : Hid (∀ w', w1.grownBy w' (some g) → w.grownBy w' (some g)) := fun w' h => grownBy_more HBA.out h
  clear hw1 hgb HBA
  refine wp_region_whole (by kernel_rfl) (by kernel_rfl) (by kernel_rfl) (by kernel_rfl) (FlatL 14 (fun o wz => w1.grownBy wz (some g) ∧ Box3 wz gb 37 a b c ∧ TreeIn wz g (if o = true then us1 else ts) rs) (gVals [.slice (some ⟨g, 0, none⟩) n cap, .int .i64 (m : Int), .slice (some ⟨g, 0, none⟩) n cap, .int .i64 (m : Int), .pointer (some ⟨g, m * 5, none⟩), .pointer (some ⟨g, m * 5 + 2, none⟩), amt ra rb rc, amt a b c, .tuple #[amt xa xb xc, .bool true], .tuple #[amt xa xb xc, .bool true], amt xa xb xc, .bool true, .pointer (some ⟨g, m * 5, none⟩), .pointer (some ⟨g, m * 5 + 2, none⟩), undef])) (flatL_start ⟨grownBy_drew w1 _, box3_drew HX.out, by simpa using HT.out.drew⟩) ?_ ?_
  · refine ⟨?_, ?_, ?_, ?_, ?_, ?_, ?_, ?_, ?_, ?_, ?_, ?_, ?_, ?_, ?_, trivial⟩
    · intro b0 us wz L hslot hoth hLi hR hcl hdo K hK
      have s0 : b0.tmps.getD 0 undef = .slice (some ⟨g, 0, none⟩) n cap := hoth 0 (by rfl)
      clear hslot hoth hdo hcl hLi
      refine guard_none (by rfl) ?_
      go_simp
      exact hK _ _ (flatL_mark (by decide) (hR.1) (fun _ _ h => h) hR.2 rfl)
    · intro b0 us wz L hslot hoth hLi hR hcl hdo K hK
      have s1 : b0.tmps.getD 1 undef = .int .i64 (m : Int) := hoth 1 (by rfl)
      clear hslot hoth hdo hcl hLi
      refine guard_none (by rfl) ?_
      go_simp
      exact hK _ _ (flatL_mark (by decide) (hR.1) (fun _ _ h => h) hR.2 rfl)
    · intro b0 us wz L hslot hoth hLi hR hcl hdo K hK
      have s0 : b0.tmps.getD 0 undef = .slice (some ⟨g, 0, none⟩) n cap := hoth 0 (by rfl)
      clear hslot hoth hdo hcl hLi
      refine guard_none (by rfl) ?_
      go_simp
      exact hK _ _ (flatL_mark (by decide) (hR.1) (fun _ _ h => h) hR.2 rfl)
    · intro b0 us wz L hslot hoth hLi hR hcl hdo K hK
      have s1 : b0.tmps.getD 1 undef = .int .i64 (m : Int) := hoth 1 (by rfl)
      clear hslot hoth hdo hcl hLi
      refine guard_none (by rfl) ?_
      go_simp
      exact hK _ _ (flatL_mark (by decide) (hR.1) (fun _ _ h => h) hR.2 rfl)
    · intro b0 us wz L hslot hoth hLi hR hcl hdo K hK
      have s9 : b0.tmps.getD 9 undef = .slice (some ⟨g, 0, none⟩) n cap := (hslot 2 9 (by rfl)).trans (hR.2 2 (done_at hdo 2 (by rfl)))
      have s10 : b0.tmps.getD 10 undef = .int .i64 (m : Int) := (hslot 3 10 (by rfl)).trans (hR.2 3 (done_at hdo 3 (by rfl)))
      clear hslot hoth hdo hcl hLi
      refine guard_none (by rfl) ?_
      go_simp
      exact hK _ _ (flatL_mark (by decide) (hR.1) (fun _ _ h => h) hR.2 rfl)
    · intro b0 us wz L hslot hoth hLi hR hcl hdo K hK
      have s11 : b0.tmps.getD 11 undef = .pointer (some ⟨g, m * 5, none⟩) := (hslot 4 11 (by rfl)).trans (hR.2 4 (done_at hdo 4 (by rfl)))
      clear hslot hoth hdo hcl hLi
      refine guard_none (by rfl) ?_
      go_simp
      exact hK _ _ (flatL_mark (by decide) (hR.1) (fun _ _ h => h) hR.2 rfl)
    · intro b0 us wz L hslot hoth hLi hR hcl hdo K hK
      have s12 : b0.tmps.getD 12 undef = .pointer (some ⟨g, m * 5 + 2, none⟩) := (hslot 5 12 (by rfl)).trans (hR.2 5 (done_at hdo 5 (by rfl)))
      have h14 : L 14 = false := by
        cases h : L 14 with
        | false => rfl
        | true =>
          have h10 := done_at (hcl 14 _ rfl h) 10 (by rfl)
          have h9 := done_at (hcl 10 _ rfl h10) 9 (by rfl)
          have h8 := done_at (hcl 9 _ rfl h9) 8 (by rfl)
          rw [done_at (hcl 8 _ rfl h8) 6 (by rfl)] at hLi
          cases hLi
      have ht := hR.1.2.2
      rw [h14] at ht
      simp only [Bool.false_eq_true, if_false] at ht
      have d := ht.cell m HM.out
      rw [HR.out] at d
      have k2 := d.c2
      have k3 := d.c3
      have k4 := d.c4
      simp only at k2 k3 k4
      clear d ht
      clear hslot hoth hdo hcl hLi
      refine guard_none (by rfl) ?_
      go_simp
      exact hK _ _ (flatL_mark (by decide) (hR.1) (fun _ _ h => h) hR.2 rfl)
    · intro b0 us wz L hslot hoth hLi hR hcl hdo K hK
      have s5 : b0.tmps.getD 5 undef = .pointer (some ⟨gb, 0, none⟩) := hoth 5 (by rfl)
      have k0 := hR.1.2.1.c0
      have k1 := hR.1.2.1.c1
      have k2 := hR.1.2.1.c2
      clear hslot hoth hdo hcl hLi
      refine guard_none (by rfl) ?_
      go_simp
      exact hK _ _ (flatL_mark (by decide) (hR.1) (fun _ _ h => h) hR.2 rfl)
    · intro b0 us wz L hslot hoth hLi hR hcl hdo K hK
      have s13 : b0.tmps.getD 13 undef = amt ra rb rc := (hslot 6 13 (by rfl)).trans (hR.2 6 (done_at hdo 6 (by rfl)))
      have s14 : b0.tmps.getD 14 undef = amt a b c := (hslot 7 14 (by rfl)).trans (hR.2 7 (done_at hdo 7 (by rfl)))
      clear hslot hoth hdo hcl hLi
      refine guard_none (by rfl) ?_
      go_simp
      refine (CA wz).mono ?_
      rintro e w' ⟨rfl, hb⟩
      exact hK _ _ (flatL_mark (by decide) ⟨grownBy_below hR.1.1 hb, box_on hR.1.2.1 hb, hR.1.2.2.keep hb⟩ (fun _ _ h => h) hR.2 rfl)
    · intro b0 us wz L hslot hoth hLi hR hcl hdo K hK
      have s15 : b0.tmps.getD 15 undef = .tuple #[amt xa xb xc, .bool true] := (hslot 8 15 (by rfl)).trans (hR.2 8 (done_at hdo 8 (by rfl)))
      clear hslot hoth hdo hcl hLi
      refine guard_none (by rfl) ?_
      go_simp
      exact hK _ _ (flatL_mark (by decide) (hR.1) (fun _ _ h => h) hR.2 rfl)
    · intro b0 us wz L hslot hoth hLi hR hcl hdo K hK
      have s6 : b0.tmps.getD 6 undef = .tuple #[amt xa xb xc, .bool true] := (hslot 9 6 (by rfl)).trans (hR.2 9 (done_at hdo 9 (by rfl)))
      clear hslot hoth hdo hcl hLi
      refine guard_none (by rfl) ?_
      go_simp
      exact hK _ _ (flatL_mark (by decide) (hR.1) (fun _ _ h => h) hR.2 rfl)
    · intro b0 us wz L hslot hoth hLi hR hcl hdo K hK
      have s6 : b0.tmps.getD 6 undef = .tuple #[amt xa xb xc, .bool true] := (hslot 9 6 (by rfl)).trans (hR.2 9 (done_at hdo 9 (by rfl)))
      clear hslot hoth hdo hcl hLi
      refine guard_none (by rfl) ?_
      go_simp
      exact hK _ _ (flatL_mark (by decide) (hR.1) (fun _ _ h => h) hR.2 rfl)
    · intro b0 us wz L hslot hoth hLi hR hcl hdo K hK
      have s7 : b0.tmps.getD 7 undef = .slice (some ⟨g, 0, none⟩) n cap := (hslot 0 7 (by rfl)).trans (hR.2 0 (done_at hdo 0 (by rfl)))
      have s8 : b0.tmps.getD 8 undef = .int .i64 (m : Int) := (hslot 1 8 (by rfl)).trans (hR.2 1 (done_at hdo 1 (by rfl)))
      clear hslot hoth hdo hcl hLi
      refine guard_none (by rfl) ?_
      go_simp
      exact hK _ _ (flatL_mark (by decide) (hR.1) (fun _ _ h => h) hR.2 rfl)
    · intro b0 us wz L hslot hoth hLi hR hcl hdo K hK
      have s18 : b0.tmps.getD 18 undef = .pointer (some ⟨g, m * 5, none⟩) := (hslot 12 18 (by rfl)).trans (hR.2 12 (done_at hdo 12 (by rfl)))
      clear hslot hoth hdo hcl hLi
      refine guard_none (by rfl) ?_
      go_simp
      exact hK _ _ (flatL_mark (by decide) (hR.1) (fun _ _ h => h) hR.2 rfl)
    · intro b0 us wz L hslot hoth hLi hR hcl hdo K hK
      have s19 : b0.tmps.getD 19 undef = .pointer (some ⟨g, m * 5 + 2, none⟩) := (hslot 13 19 (by rfl)).trans (hR.2 13 (done_at hdo 13 (by rfl)))
      have s16 : b0.tmps.getD 16 undef = amt xa xb xc := (hslot 10 16 (by rfl)).trans (hR.2 10 (done_at hdo 10 (by rfl)))
      have h14 : L 14 = false := by
        exact hLi
      have ht := hR.1.2.2
      rw [h14] at ht
      simp only [Bool.false_eq_true, if_false] at ht
      have d := ht.cell m HM.out
      have k2 := d.c2
      have k3 := d.c3
      have k4 := d.c4
      have f2 := ht.free (m * 5 + 2)
      have f3 := ht.free (m * 5 + 3)
      have f4 := ht.free (m * 5 + 4)
      have HN := hid_of (HPUT.out wz ht)
      generalize (reAt ts m).a = o2 at k2
      generalize (reAt ts m).b = o3 at k3
      generalize (reAt ts m).c = o4 at k4
      clear d ht
      clear hslot hoth hdo hcl hLi
      refine guard_none (by rfl) ?_
      go_simp
      exact hK undef _ (flatL_last ⟨grownBy_trans (grownBy_trans (grownBy_trans hR.1.1 (grownBy_set _ _ _ _)) (grownBy_set _ _ _ _)) (grownBy_set _ _ _ _), box3_away (box3_away (box3_away hR.1.2.1 HNE.out _) HNE.out _) HNE.out _, by simp only [if_true]; exact HN.out⟩ (fun _ _ h => h) hR.2 rfl)
  · intro us wn L hall hR a' ha'
    have g0 : us 0 = .slice (some ⟨g, 0, none⟩) n cap := hR.2 0 (hall 0 (by decide))
    have g1 : us 1 = .int .i64 (m : Int) := hR.2 1 (hall 1 (by decide))
    have g2 : us 2 = .slice (some ⟨g, 0, none⟩) n cap := hR.2 2 (hall 2 (by decide))
    have g3 : us 3 = .int .i64 (m : Int) := hR.2 3 (hall 3 (by decide))
    have g4 : us 4 = .pointer (some ⟨g, m * 5, none⟩) := hR.2 4 (hall 4 (by decide))
    have g5 : us 5 = .pointer (some ⟨g, m * 5 + 2, none⟩) := hR.2 5 (hall 5 (by decide))
    have g6 : us 6 = amt ra rb rc := hR.2 6 (hall 6 (by decide))
    have g7 : us 7 = amt a b c := hR.2 7 (hall 7 (by decide))
    have g8 : us 8 = .tuple #[amt xa xb xc, .bool true] := hR.2 8 (hall 8 (by decide))
    have g9 : us 9 = .tuple #[amt xa xb xc, .bool true] := hR.2 9 (hall 9 (by decide))
    have g10 : us 10 = amt xa xb xc := hR.2 10 (hall 10 (by decide))
    have g11 : us 11 = .bool true := hR.2 11 (hall 11 (by decide))
    have g12 : us 12 = .pointer (some ⟨g, m * 5, none⟩) := hR.2 12 (hall 12 (by decide))
    have g13 : us 13 = .pointer (some ⟨g, m * 5 + 2, none⟩) := hR.2 13 (hall 13 (by decide))
    have hE := hR.1
    rw [hall 14 (by decide)] at hE
    simp only [if_true] at hE
    have HE := hid_of hE
    clear hE
    clear hR hall
    simp only [putAll, g0, g1, g2, g3, g4, g5, g6, g7, g8, g9, g10, g11, g12, g13] at ha'
    subst ha'
    go_frame
    clear CA HPUT HT HX HNE HR
    go_wp2
    go_returns
    exact ⟨rfl, HE.out.2.2, HBA'.out _ HE.out.1⟩
end Go.Proofs.YtfcenombphodbaaDoor
