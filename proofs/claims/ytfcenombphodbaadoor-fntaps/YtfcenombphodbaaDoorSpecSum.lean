/-
  The sum of all that live, as the model takes it.
-/
import Derived.Test.YtfcenombphodbaaDoorTreeM
import Derived.Test.YtfcenombphodbaaDoorRegion3
namespace Go.Proofs.YtfcenombphodbaaDoor
open Go.RowKit
set_option linter.unusedVariables false
set_option maxRecDepth 100000

theorem box3_drew {wz : World} {b : Nat} {t : TypeId} {a c d : Int} (h : Box3 wz b t a c d) : Box3 wz.drew b t a c d := ⟨h.at'⟩
theorem box3_set0 {wz : World} {b : Nat} {t : TypeId} {a c d : Int} (h : Box3 wz b t a c d) (v : Int) : Box3 (wz.setCell ⟨b, 0, none⟩ (.int .i64 v)) b t v c d := ⟨heap_setCell_same wz b 0 _ t (.int .i64 v) h.at'⟩
theorem box3_set1 {wz : World} {b : Nat} {t : TypeId} {a c d : Int} (h : Box3 wz b t a c d) (v : Int) : Box3 (wz.setCell ⟨b, 1, none⟩ (.int .i64 v)) b t a v d := ⟨heap_setCell_same wz b 1 _ t (.int .i64 v) h.at'⟩
theorem box3_set2 {wz : World} {b : Nat} {t : TypeId} {a c d : Int} (h : Box3 wz b t a c d) (v : Int) : Box3 (wz.setCell ⟨b, 2, none⟩ (.int .i64 v)) b t a c v := ⟨heap_setCell_same wz b 2 _ t (.int .i64 v) h.at'⟩
theorem box3_away {wz : World} {b b' i : Nat} {t : TypeId} {a c d : Int} (h : Box3 wz b t a c d) (hne : b ≠ b') (v : Value) : Box3 (wz.setCell ⟨b', i, none⟩ v) b t a c d := ⟨by rw [heap_setCell_other _ _ _ _ (by simpa using hne)]; exact h.at'⟩

set_option maxRecDepth 100000 in
set_option maxHeartbeats 4000000 in
theorem specSum_any (v : Value) (ts : List Re) (w : World) (hx : IsTree w v ts) (hl : ts.length = 5) (hok : ∀ i, i < 5 → amtOk (reAt ts i).a (reAt ts i).b (reAt ts i).c = true) :
    Calls Tryd.prog 34 #[v] w fun e w' => e = .returned (amt (sumN Re.a ts 5) (sumN Re.b ts 5) (sumN Re.c ts 5)) ∧ Below w.heap.size w w' := by
  have hx0 := hx
  obtain ⟨a, cap, rfl, hcap, _⟩ := hx
  have HX : Hid (IsTree w (.slice a ts.length cap) ts) := hx0
  have HL : Hid (ts.length = 5) := hl
  have HO : Hid (∀ i, i < 5 → amtOk (reAt ts i).a (reAt ts i).b (reAt ts i).c = true) := hok
  have HB0 : Hid (Box3 ((w.alloc (boxA 0 0 0)).alloc (boxA 0 0 0)) w.heap.size 37 0 0 0 ∧ Below w.heap.size w ((w.alloc (boxA 0 0 0)).alloc (boxA 0 0 0)) ∧ Box3 ((w.alloc (boxA 0 0 0)).alloc (boxA 0 0 0)) (w.heap.size + 1) 37 (sumN Re.a ts 0) (sumN Re.b ts 0) (sumN Re.c ts 0)) := by
    have h := heap_alloc_new (w.alloc (boxA 0 0 0)) (boxA 0 0 0)
    rw [show (w.alloc (boxA 0 0 0)).heap.size = w.heap.size + 1 by simp] at h
    exact ⟨⟨by rw [heap_alloc_old _ _ (by simp)]; exact heap_alloc_new w _⟩, by go_grown, ⟨h⟩⟩
  have hlen : (ts.length : Int) = 5 := by omega
  clear hx0 hok hl
  go_enter Tryd.func34, Tryd.ntmps34
  go_wp2
  go_loopw [4] (fun i wr => ∃ k : Nat, k ≤ 5 ∧ i = .int .i64 k ∧ Hid (Box3 wr w.heap.size 37 0 0 0 ∧ Below w.heap.size w wr ∧ Box3 wr (w.heap.size + 1) 37 (sumN Re.a ts k) (sumN Re.b ts k) (sumN Re.c ts k))) (fun i _ => 5 - (intOf i).toNat)
  case atStart => exact ⟨0, Nat.zero_le _, rfl, HB0⟩
  case round =>
    obtain ⟨k, hk, rfl, HB⟩ := hrel
    clear HB0
    by_cases hlt : k < 5
    · obtain ⟨p, q, rfl, hq, hc⟩ := HX.out.at (i := k) (by rw [HL.out]; exact hlt)
      have hw := HO.out k hlt
      have ha := sumN_small Re.a ts (fun i hi => by have := amtOk_true (HO.out i hi); omega) k hk
      have hb := sumN_small Re.b ts (fun i hi => by have := amtOk_true (HO.out i hi); omega) k hk
      have hcs := sumN_small Re.c ts (fun i hi => by have := amtOk_true (HO.out i hi); omega) k hk
      have u := amtOk_true hw
      have hcell : Cells5 wr q (reAt ts k) := hc.on HB.out.2.1
      have c0 := hcell.c0
      have HN : Hid (∀ wn, Box3 wn w.heap.size 37 0 0 0 ∧ Below w.heap.size w wn ∧ Box3 wn (w.heap.size + 1) 37 (sumN Re.a ts k + (if (reAt ts k).live then (reAt ts k).a else 0)) (sumN Re.b ts k + (if (reAt ts k).live then (reAt ts k).b else 0)) (sumN Re.c ts k + (if (reAt ts k).live then (reAt ts k).c else 0)) → Hid (Box3 wn w.heap.size 37 0 0 0 ∧ Below w.heap.size w wn ∧ Box3 wn (w.heap.size + 1) 37 (sumN Re.a ts (k + 1)) (sumN Re.b ts (k + 1)) (sumN Re.c ts (k + 1)))) := fun wn h => h
      have HQ : Hid (Cells5 w q (reAt ts k)) := hc
      clear hc hw hcell
      generalize sumN Re.a ts k = xa at HB HN ha
      generalize sumN Re.b ts k = xb at HB HN hb
      generalize sumN Re.c ts k = xc at HB HN hcs
      generalize reAt ts k = r at c0 HN HQ u
      obtain ⟨l, p1, ra, rb, rc⟩ := r
      simp only at c0 HN u
      cases l with
      | true =>
        simp only [if_true] at HN
        obtain ⟨ya, hya⟩ : ∃ y, y = xa + ra := ⟨_, rfl⟩
        obtain ⟨yb, hyb⟩ : ∃ y, y = xb + rb := ⟨_, rfl⟩
        obtain ⟨yc, hyc⟩ : ∃ y, y = xc + rc := ⟨_, rfl⟩
        have Wa : Hid (IntKind.i64.wrap (xa + ra) = ya) := by show _ = _; rw [hya]; exact wraps_i64 _ (by omega) (by omega)
        have wa : wrap64 (xa + ra) = ya := by rw [hya]; exact wrap_near (by omega) (by omega)
        have Wb : Hid (IntKind.i64.wrap (xb + rb) = yb) := by show _ = _; rw [hyb]; exact wraps_i64 _ (by omega) (by omega)
        have wb : wrap64 (xb + rb) = yb := by rw [hyb]; exact wrap_near (by omega) (by omega)
        have Wc : Hid (IntKind.i64.wrap (xc + rc) = yc) := by show _ = _; rw [hyc]; exact wraps_i64 _ (by omega) (by omega)
        have wc : wrap64 (xc + rc) = yc := by rw [hyc]; exact wrap_near (by omega) (by omega)
        rw [← hya, ← hyb, ← hyc] at HN
        clear hya hyb hyc ha hb hcs u
        go_wp2_with fail
        refine wp_region_whole (by kernel_rfl) (by kernel_rfl) (by kernel_rfl) (by kernel_rfl) (FlatL 10 (fun o wz => Box3 wz w.heap.size 37 0 0 0 ∧ Below w.heap.size w wz ∧ Box3 wz (w.heap.size + 1) 37 (if o = true then ya else xa) xb xc) (gVals [.pointer (some ⟨w.heap.size + 1, 0, none⟩), .int .i64 xa, .slice (some p) ts.length cap, .int .i64 (k : Int), .pointer (some q), .pointer (some ⟨q.block, q.off + 2, none⟩), .pointer (some ⟨q.block, q.off + 2, none⟩), .int .i64 ra, .int .i64 ya, .pointer (some ⟨w.heap.size + 1, 0, none⟩), undef])) (flatL_start ⟨box3_drew HB.out.1, HB.out.2.1.drew, box3_drew (by simpa using HB.out.2.2)⟩) ?_ ?_
        · refine ⟨?_, ?_, ?_, ?_, ?_, ?_, ?_, ?_, ?_, ?_, ?_, trivial⟩
          · intro b0 us wz L hslot hoth hLi hR hcl hdo K hK
            have s3 : b0.tmps.getD 3 undef = .pointer (some ⟨w.heap.size + 1, 0, none⟩) := hoth 3 (by rfl)
            clear hslot hoth hdo hcl hLi
            refine guard_none (by rfl) ?_
            go_simp
            exact hK _ _ (flatL_mark (by decide) (hR.1) (fun _ _ h => h) hR.2 rfl)
          · intro b0 us wz L hslot hoth hLi hR hcl hdo K hK
            have s17 : b0.tmps.getD 17 undef = .pointer (some ⟨w.heap.size + 1, 0, none⟩) := (hslot 0 17 (by rfl)).trans (hR.2 0 (done_at hdo 0 (by rfl)))
            have h10 : L 10 = false := by
              cases h : L 10 with
              | false => rfl
              | true =>
                have h8 := done_at (hcl 10 _ rfl h) 8 (by rfl)
                rw [done_at (hcl 8 _ rfl h8) 1 (by rfl)] at hLi
                cases hLi
            have hb3 := hR.1.2.2
            rw [h10] at hb3
            simp only [Bool.false_eq_true, if_false] at hb3
            have k0 := hb3.c0
            clear hb3
            clear hslot hoth hdo hcl hLi
            refine guard_none (by rfl) ?_
            go_simp
            exact hK _ _ (flatL_mark (by decide) (hR.1) (fun _ _ h => h) hR.2 rfl)
          · intro b0 us wz L hslot hoth hLi hR hcl hdo K hK
            have s0 : b0.tmps.getD 0 undef = .slice (some p) ts.length cap := hoth 0 (by rfl)
            clear hslot hoth hdo hcl hLi
            refine guard_none (by rfl) ?_
            go_simp
            exact hK _ _ (flatL_mark (by decide) (hR.1) (fun _ _ h => h) hR.2 rfl)
          · intro b0 us wz L hslot hoth hLi hR hcl hdo K hK
            have s4 : b0.tmps.getD 4 undef = .int .i64 (k : Int) := hoth 4 (by rfl)
            clear hslot hoth hdo hcl hLi
            refine guard_none (by rfl) ?_
            go_simp
            exact hK _ _ (flatL_mark (by decide) (hR.1) (fun _ _ h => h) hR.2 rfl)
          · intro b0 us wz L hslot hoth hLi hR hcl hdo K hK
            have s19 : b0.tmps.getD 19 undef = .slice (some p) ts.length cap := (hslot 2 19 (by rfl)).trans (hR.2 2 (done_at hdo 2 (by rfl)))
            have s20 : b0.tmps.getD 20 undef = .int .i64 (k : Int) := (hslot 3 20 (by rfl)).trans (hR.2 3 (done_at hdo 3 (by rfl)))
            clear hslot hoth hdo hcl hLi
            refine guard_none (by rfl) ?_
            go_simp
            exact hK _ _ (flatL_mark (by decide) (hR.1) (fun _ _ h => h) hR.2 rfl)
          · intro b0 us wz L hslot hoth hLi hR hcl hdo K hK
            have s21 : b0.tmps.getD 21 undef = .pointer (some q) := (hslot 4 21 (by rfl)).trans (hR.2 4 (done_at hdo 4 (by rfl)))
            clear hslot hoth hdo hcl hLi
            refine guard_none (by rfl) ?_
            go_simp
            exact hK _ _ (flatL_mark (by decide) (hR.1) (fun _ _ h => h) hR.2 rfl)
          · intro b0 us wz L hslot hoth hLi hR hcl hdo K hK
            have s22 : b0.tmps.getD 22 undef = .pointer (some ⟨q.block, q.off + 2, none⟩) := (hslot 5 22 (by rfl)).trans (hR.2 5 (done_at hdo 5 (by rfl)))
            clear hslot hoth hdo hcl hLi
            refine guard_none (by rfl) ?_
            go_simp
            exact hK _ _ (flatL_mark (by decide) (hR.1) (fun _ _ h => h) hR.2 rfl)
          · intro b0 us wz L hslot hoth hLi hR hcl hdo K hK
            have s23 : b0.tmps.getD 23 undef = .pointer (some ⟨q.block, q.off + 2, none⟩) := (hslot 6 23 (by rfl)).trans (hR.2 6 (done_at hdo 6 (by rfl)))
            have cc := HQ.out.on hR.1.2.1
            have k0 := cc.c2
            simp only at k0
            clear cc
            clear hslot hoth hdo hcl hLi
            refine guard_none (by rfl) ?_
            go_simp
            exact hK _ _ (flatL_mark (by decide) (hR.1) (fun _ _ h => h) hR.2 rfl)
          · intro b0 us wz L hslot hoth hLi hR hcl hdo K hK
            have s18 : b0.tmps.getD 18 undef = .int .i64 xa := (hslot 1 18 (by rfl)).trans (hR.2 1 (done_at hdo 1 (by rfl)))
            have s24 : b0.tmps.getD 24 undef = .int .i64 ra := (hslot 7 24 (by rfl)).trans (hR.2 7 (done_at hdo 7 (by rfl)))
            have ww := Wa.out
            clear hslot hoth hdo hcl hLi
            refine guard_none (by rfl) ?_
            go_simp
            exact hK _ _ (flatL_mark (by decide) (hR.1) (fun _ _ h => h) hR.2 rfl)
          · intro b0 us wz L hslot hoth hLi hR hcl hdo K hK
            have s3 : b0.tmps.getD 3 undef = .pointer (some ⟨w.heap.size + 1, 0, none⟩) := hoth 3 (by rfl)
            clear hslot hoth hdo hcl hLi
            refine guard_none (by rfl) ?_
            go_simp
            exact hK _ _ (flatL_mark (by decide) (hR.1) (fun _ _ h => h) hR.2 rfl)
          · intro b0 us wz L hslot hoth hLi hR hcl hdo K hK
            have s26 : b0.tmps.getD 26 undef = .pointer (some ⟨w.heap.size + 1, 0, none⟩) := (hslot 9 26 (by rfl)).trans (hR.2 9 (done_at hdo 9 (by rfl)))
            have s25 : b0.tmps.getD 25 undef = .int .i64 ya := (hslot 8 25 (by rfl)).trans (hR.2 8 (done_at hdo 8 (by rfl)))
            have bx := hR.1.2.2
            have k0 := bx.c0
            have f0 := bx.f0 0
            clear hslot hoth hdo hcl hLi
            refine guard_none (by rfl) ?_
            go_simp
            exact hK undef _ (flatL_last ⟨box3_away hR.1.1 (by omega) _, hR.1.2.1.setCell (p := ⟨w.heap.size + 1, 0, none⟩) (by show w.heap.size ≤ w.heap.size + 1; omega) _, by simp only [if_true]; exact box3_set0 hR.1.2.2 _⟩ (fun _ _ h => h) hR.2 rfl)
        · intro us wn L hall hR a' ha'
          have g0 : us 0 = .pointer (some ⟨w.heap.size + 1, 0, none⟩) := hR.2 0 (hall 0 (by decide))
          have g1 : us 1 = .int .i64 xa := hR.2 1 (hall 1 (by decide))
          have g2 : us 2 = .slice (some p) ts.length cap := hR.2 2 (hall 2 (by decide))
          have g3 : us 3 = .int .i64 (k : Int) := hR.2 3 (hall 3 (by decide))
          have g4 : us 4 = .pointer (some q) := hR.2 4 (hall 4 (by decide))
          have g5 : us 5 = .pointer (some ⟨q.block, q.off + 2, none⟩) := hR.2 5 (hall 5 (by decide))
          have g6 : us 6 = .pointer (some ⟨q.block, q.off + 2, none⟩) := hR.2 6 (hall 6 (by decide))
          have g7 : us 7 = .int .i64 ra := hR.2 7 (hall 7 (by decide))
          have g8 : us 8 = .int .i64 ya := hR.2 8 (hall 8 (by decide))
          have g9 : us 9 = .pointer (some ⟨w.heap.size + 1, 0, none⟩) := hR.2 9 (hall 9 (by decide))
          have HB' : Hid (Box3 wn w.heap.size 37 0 0 0 ∧ Below w.heap.size w wn ∧ Box3 wn (w.heap.size + 1) 37 ya xb xc) := by
            have h := hR.1
            rw [hall 10 (by decide)] at h
            exact hid_of (by simpa using h)
          clear hR hall
          simp only [putAll, g0, g1, g2, g3, g4, g5, g6, g7, g8, g9] at ha'
          subst ha'
          go_frame
          clear HB
          have HB := HB'
          clear HB'
          go_wp2_with fail
          refine wp_region_whole (by kernel_rfl) (by kernel_rfl) (by kernel_rfl) (by kernel_rfl) (FlatL 10 (fun o wz => Box3 wz w.heap.size 37 0 0 0 ∧ Below w.heap.size w wz ∧ Box3 wz (w.heap.size + 1) 37 ya (if o = true then yb else xb) xc) (gVals [.pointer (some ⟨w.heap.size + 1, 1, none⟩), .int .i64 xb, .slice (some p) ts.length cap, .int .i64 (k : Int), .pointer (some q), .pointer (some ⟨q.block, q.off + 2, none⟩), .pointer (some ⟨q.block, q.off + 3, none⟩), .int .i64 rb, .int .i64 yb, .pointer (some ⟨w.heap.size + 1, 1, none⟩), undef])) (flatL_start ⟨box3_drew HB.out.1, HB.out.2.1.drew, box3_drew (by simpa using HB.out.2.2)⟩) ?_ ?_
          · refine ⟨?_, ?_, ?_, ?_, ?_, ?_, ?_, ?_, ?_, ?_, ?_, trivial⟩
            · intro b0 us wz L hslot hoth hLi hR hcl hdo K hK
              have s3 : b0.tmps.getD 3 undef = .pointer (some ⟨w.heap.size + 1, 0, none⟩) := hoth 3 (by rfl)
              clear hslot hoth hdo hcl hLi
              refine guard_none (by rfl) ?_
              go_simp
              exact hK _ _ (flatL_mark (by decide) (hR.1) (fun _ _ h => h) hR.2 rfl)
            · intro b0 us wz L hslot hoth hLi hR hcl hdo K hK
              have s27 : b0.tmps.getD 27 undef = .pointer (some ⟨w.heap.size + 1, 1, none⟩) := (hslot 0 27 (by rfl)).trans (hR.2 0 (done_at hdo 0 (by rfl)))
              have h10 : L 10 = false := by
                cases h : L 10 with
                | false => rfl
                | true =>
                  have h8 := done_at (hcl 10 _ rfl h) 8 (by rfl)
                  rw [done_at (hcl 8 _ rfl h8) 1 (by rfl)] at hLi
                  cases hLi
              have hb3 := hR.1.2.2
              rw [h10] at hb3
              simp only [Bool.false_eq_true, if_false] at hb3
              have k0 := hb3.c1
              clear hb3
              clear hslot hoth hdo hcl hLi
              refine guard_none (by rfl) ?_
              go_simp
              exact hK _ _ (flatL_mark (by decide) (hR.1) (fun _ _ h => h) hR.2 rfl)
            · intro b0 us wz L hslot hoth hLi hR hcl hdo K hK
              have s0 : b0.tmps.getD 0 undef = .slice (some p) ts.length cap := hoth 0 (by rfl)
              clear hslot hoth hdo hcl hLi
              refine guard_none (by rfl) ?_
              go_simp
              exact hK _ _ (flatL_mark (by decide) (hR.1) (fun _ _ h => h) hR.2 rfl)
            · intro b0 us wz L hslot hoth hLi hR hcl hdo K hK
              have s4 : b0.tmps.getD 4 undef = .int .i64 (k : Int) := hoth 4 (by rfl)
              clear hslot hoth hdo hcl hLi
              refine guard_none (by rfl) ?_
              go_simp
              exact hK _ _ (flatL_mark (by decide) (hR.1) (fun _ _ h => h) hR.2 rfl)
            · intro b0 us wz L hslot hoth hLi hR hcl hdo K hK
              have s29 : b0.tmps.getD 29 undef = .slice (some p) ts.length cap := (hslot 2 29 (by rfl)).trans (hR.2 2 (done_at hdo 2 (by rfl)))
              have s30 : b0.tmps.getD 30 undef = .int .i64 (k : Int) := (hslot 3 30 (by rfl)).trans (hR.2 3 (done_at hdo 3 (by rfl)))
              clear hslot hoth hdo hcl hLi
              refine guard_none (by rfl) ?_
              go_simp
              exact hK _ _ (flatL_mark (by decide) (hR.1) (fun _ _ h => h) hR.2 rfl)
            · intro b0 us wz L hslot hoth hLi hR hcl hdo K hK
              have s31 : b0.tmps.getD 31 undef = .pointer (some q) := (hslot 4 31 (by rfl)).trans (hR.2 4 (done_at hdo 4 (by rfl)))
              clear hslot hoth hdo hcl hLi
              refine guard_none (by rfl) ?_
              go_simp
              exact hK _ _ (flatL_mark (by decide) (hR.1) (fun _ _ h => h) hR.2 rfl)
            · intro b0 us wz L hslot hoth hLi hR hcl hdo K hK
              have s32 : b0.tmps.getD 32 undef = .pointer (some ⟨q.block, q.off + 2, none⟩) := (hslot 5 32 (by rfl)).trans (hR.2 5 (done_at hdo 5 (by rfl)))
              clear hslot hoth hdo hcl hLi
              refine guard_none (by rfl) ?_
              go_simp
              exact hK _ _ (flatL_mark (by decide) (hR.1) (fun _ _ h => h) hR.2 rfl)
            · intro b0 us wz L hslot hoth hLi hR hcl hdo K hK
              have s33 : b0.tmps.getD 33 undef = .pointer (some ⟨q.block, q.off + 3, none⟩) := (hslot 6 33 (by rfl)).trans (hR.2 6 (done_at hdo 6 (by rfl)))
              have cc := HQ.out.on hR.1.2.1
              have k0 := cc.c3
              simp only at k0
              clear cc
              clear hslot hoth hdo hcl hLi
              refine guard_none (by rfl) ?_
              go_simp
              exact hK _ _ (flatL_mark (by decide) (hR.1) (fun _ _ h => h) hR.2 rfl)
            · intro b0 us wz L hslot hoth hLi hR hcl hdo K hK
              have s28 : b0.tmps.getD 28 undef = .int .i64 xb := (hslot 1 28 (by rfl)).trans (hR.2 1 (done_at hdo 1 (by rfl)))
              have s34 : b0.tmps.getD 34 undef = .int .i64 rb := (hslot 7 34 (by rfl)).trans (hR.2 7 (done_at hdo 7 (by rfl)))
              have ww := Wb.out
              clear hslot hoth hdo hcl hLi
              refine guard_none (by rfl) ?_
              go_simp
              exact hK _ _ (flatL_mark (by decide) (hR.1) (fun _ _ h => h) hR.2 rfl)
            · intro b0 us wz L hslot hoth hLi hR hcl hdo K hK
              have s3 : b0.tmps.getD 3 undef = .pointer (some ⟨w.heap.size + 1, 0, none⟩) := hoth 3 (by rfl)
              clear hslot hoth hdo hcl hLi
              refine guard_none (by rfl) ?_
              go_simp
              exact hK _ _ (flatL_mark (by decide) (hR.1) (fun _ _ h => h) hR.2 rfl)
            · intro b0 us wz L hslot hoth hLi hR hcl hdo K hK
              have s36 : b0.tmps.getD 36 undef = .pointer (some ⟨w.heap.size + 1, 1, none⟩) := (hslot 9 36 (by rfl)).trans (hR.2 9 (done_at hdo 9 (by rfl)))
              have s35 : b0.tmps.getD 35 undef = .int .i64 yb := (hslot 8 35 (by rfl)).trans (hR.2 8 (done_at hdo 8 (by rfl)))
              have bx := hR.1.2.2
              have k0 := bx.c1
              have f0 := bx.f0 1
              clear hslot hoth hdo hcl hLi
              refine guard_none (by rfl) ?_
              go_simp
              exact hK undef _ (flatL_last ⟨box3_away hR.1.1 (by omega) _, hR.1.2.1.setCell (p := ⟨w.heap.size + 1, 1, none⟩) (by show w.heap.size ≤ w.heap.size + 1; omega) _, by simp only [if_true]; exact box3_set1 hR.1.2.2 _⟩ (fun _ _ h => h) hR.2 rfl)
          · intro us wn L hall hR a' ha'
            have g0 : us 0 = .pointer (some ⟨w.heap.size + 1, 1, none⟩) := hR.2 0 (hall 0 (by decide))
            have g1 : us 1 = .int .i64 xb := hR.2 1 (hall 1 (by decide))
            have g2 : us 2 = .slice (some p) ts.length cap := hR.2 2 (hall 2 (by decide))
            have g3 : us 3 = .int .i64 (k : Int) := hR.2 3 (hall 3 (by decide))
            have g4 : us 4 = .pointer (some q) := hR.2 4 (hall 4 (by decide))
            have g5 : us 5 = .pointer (some ⟨q.block, q.off + 2, none⟩) := hR.2 5 (hall 5 (by decide))
            have g6 : us 6 = .pointer (some ⟨q.block, q.off + 3, none⟩) := hR.2 6 (hall 6 (by decide))
            have g7 : us 7 = .int .i64 rb := hR.2 7 (hall 7 (by decide))
            have g8 : us 8 = .int .i64 yb := hR.2 8 (hall 8 (by decide))
            have g9 : us 9 = .pointer (some ⟨w.heap.size + 1, 1, none⟩) := hR.2 9 (hall 9 (by decide))
            have HB' : Hid (Box3 wn w.heap.size 37 0 0 0 ∧ Below w.heap.size w wn ∧ Box3 wn (w.heap.size + 1) 37 ya yb xc) := by
              have h := hR.1
              rw [hall 10 (by decide)] at h
              exact hid_of (by simpa using h)
            clear hR hall
            simp only [putAll, g0, g1, g2, g3, g4, g5, g6, g7, g8, g9] at ha'
            subst ha'
            go_frame
            clear HB
            have HB := HB'
            clear HB'
            go_wp2_with fail
            refine wp_region_whole (by kernel_rfl) (by kernel_rfl) (by kernel_rfl) (by kernel_rfl) (FlatL 10 (fun o wz => Box3 wz w.heap.size 37 0 0 0 ∧ Below w.heap.size w wz ∧ Box3 wz (w.heap.size + 1) 37 ya yb (if o = true then yc else xc)) (gVals [.pointer (some ⟨w.heap.size + 1, 2, none⟩), .int .i64 xc, .slice (some p) ts.length cap, .int .i64 (k : Int), .pointer (some q), .pointer (some ⟨q.block, q.off + 2, none⟩), .pointer (some ⟨q.block, q.off + 4, none⟩), .int .i64 rc, .int .i64 yc, .pointer (some ⟨w.heap.size + 1, 2, none⟩), undef])) (flatL_start ⟨box3_drew HB.out.1, HB.out.2.1.drew, box3_drew (by simpa using HB.out.2.2)⟩) ?_ ?_
            · refine ⟨?_, ?_, ?_, ?_, ?_, ?_, ?_, ?_, ?_, ?_, ?_, trivial⟩
              · intro b0 us wz L hslot hoth hLi hR hcl hdo K hK
                have s3 : b0.tmps.getD 3 undef = .pointer (some ⟨w.heap.size + 1, 0, none⟩) := hoth 3 (by rfl)
                clear hslot hoth hdo hcl hLi
                refine guard_none (by rfl) ?_
                go_simp
                exact hK _ _ (flatL_mark (by decide) (hR.1) (fun _ _ h => h) hR.2 rfl)
              · intro b0 us wz L hslot hoth hLi hR hcl hdo K hK
                have s37 : b0.tmps.getD 37 undef = .pointer (some ⟨w.heap.size + 1, 2, none⟩) := (hslot 0 37 (by rfl)).trans (hR.2 0 (done_at hdo 0 (by rfl)))
                have h10 : L 10 = false := by
                  cases h : L 10 with
                  | false => rfl
                  | true =>
                    have h8 := done_at (hcl 10 _ rfl h) 8 (by rfl)
                    rw [done_at (hcl 8 _ rfl h8) 1 (by rfl)] at hLi
                    cases hLi
                have hb3 := hR.1.2.2
                rw [h10] at hb3
                simp only [Bool.false_eq_true, if_false] at hb3
                have k0 := hb3.c2
                clear hb3
                clear hslot hoth hdo hcl hLi
                refine guard_none (by rfl) ?_
                go_simp
                exact hK _ _ (flatL_mark (by decide) (hR.1) (fun _ _ h => h) hR.2 rfl)
              · intro b0 us wz L hslot hoth hLi hR hcl hdo K hK
                have s0 : b0.tmps.getD 0 undef = .slice (some p) ts.length cap := hoth 0 (by rfl)
                clear hslot hoth hdo hcl hLi
                refine guard_none (by rfl) ?_
                go_simp
                exact hK _ _ (flatL_mark (by decide) (hR.1) (fun _ _ h => h) hR.2 rfl)
              · intro b0 us wz L hslot hoth hLi hR hcl hdo K hK
                have s4 : b0.tmps.getD 4 undef = .int .i64 (k : Int) := hoth 4 (by rfl)
                clear hslot hoth hdo hcl hLi
                refine guard_none (by rfl) ?_
                go_simp
                exact hK _ _ (flatL_mark (by decide) (hR.1) (fun _ _ h => h) hR.2 rfl)
              · intro b0 us wz L hslot hoth hLi hR hcl hdo K hK
                have s39 : b0.tmps.getD 39 undef = .slice (some p) ts.length cap := (hslot 2 39 (by rfl)).trans (hR.2 2 (done_at hdo 2 (by rfl)))
                have s40 : b0.tmps.getD 40 undef = .int .i64 (k : Int) := (hslot 3 40 (by rfl)).trans (hR.2 3 (done_at hdo 3 (by rfl)))
                clear hslot hoth hdo hcl hLi
                refine guard_none (by rfl) ?_
                go_simp
                exact hK _ _ (flatL_mark (by decide) (hR.1) (fun _ _ h => h) hR.2 rfl)
              · intro b0 us wz L hslot hoth hLi hR hcl hdo K hK
                have s41 : b0.tmps.getD 41 undef = .pointer (some q) := (hslot 4 41 (by rfl)).trans (hR.2 4 (done_at hdo 4 (by rfl)))
                clear hslot hoth hdo hcl hLi
                refine guard_none (by rfl) ?_
                go_simp
                exact hK _ _ (flatL_mark (by decide) (hR.1) (fun _ _ h => h) hR.2 rfl)
              · intro b0 us wz L hslot hoth hLi hR hcl hdo K hK
                have s42 : b0.tmps.getD 42 undef = .pointer (some ⟨q.block, q.off + 2, none⟩) := (hslot 5 42 (by rfl)).trans (hR.2 5 (done_at hdo 5 (by rfl)))
                clear hslot hoth hdo hcl hLi
                refine guard_none (by rfl) ?_
                go_simp
                exact hK _ _ (flatL_mark (by decide) (hR.1) (fun _ _ h => h) hR.2 rfl)
              · intro b0 us wz L hslot hoth hLi hR hcl hdo K hK
                have s43 : b0.tmps.getD 43 undef = .pointer (some ⟨q.block, q.off + 4, none⟩) := (hslot 6 43 (by rfl)).trans (hR.2 6 (done_at hdo 6 (by rfl)))
                have cc := HQ.out.on hR.1.2.1
                have k0 := cc.c4
                simp only at k0
                clear cc
                clear hslot hoth hdo hcl hLi
                refine guard_none (by rfl) ?_
                go_simp
                exact hK _ _ (flatL_mark (by decide) (hR.1) (fun _ _ h => h) hR.2 rfl)
              · intro b0 us wz L hslot hoth hLi hR hcl hdo K hK
                have s38 : b0.tmps.getD 38 undef = .int .i64 xc := (hslot 1 38 (by rfl)).trans (hR.2 1 (done_at hdo 1 (by rfl)))
                have s44 : b0.tmps.getD 44 undef = .int .i64 rc := (hslot 7 44 (by rfl)).trans (hR.2 7 (done_at hdo 7 (by rfl)))
                have ww := Wc.out
                clear hslot hoth hdo hcl hLi
                refine guard_none (by rfl) ?_
                go_simp
                exact hK _ _ (flatL_mark (by decide) (hR.1) (fun _ _ h => h) hR.2 rfl)
              · intro b0 us wz L hslot hoth hLi hR hcl hdo K hK
                have s3 : b0.tmps.getD 3 undef = .pointer (some ⟨w.heap.size + 1, 0, none⟩) := hoth 3 (by rfl)
                clear hslot hoth hdo hcl hLi
                refine guard_none (by rfl) ?_
                go_simp
                exact hK _ _ (flatL_mark (by decide) (hR.1) (fun _ _ h => h) hR.2 rfl)
              · intro b0 us wz L hslot hoth hLi hR hcl hdo K hK
                have s46 : b0.tmps.getD 46 undef = .pointer (some ⟨w.heap.size + 1, 2, none⟩) := (hslot 9 46 (by rfl)).trans (hR.2 9 (done_at hdo 9 (by rfl)))
                have s45 : b0.tmps.getD 45 undef = .int .i64 yc := (hslot 8 45 (by rfl)).trans (hR.2 8 (done_at hdo 8 (by rfl)))
                have bx := hR.1.2.2
                have k0 := bx.c2
                have f0 := bx.f0 2
                clear hslot hoth hdo hcl hLi
                refine guard_none (by rfl) ?_
                go_simp
                exact hK undef _ (flatL_last ⟨box3_away hR.1.1 (by omega) _, hR.1.2.1.setCell (p := ⟨w.heap.size + 1, 2, none⟩) (by show w.heap.size ≤ w.heap.size + 1; omega) _, by simp only [if_true]; exact box3_set2 hR.1.2.2 _⟩ (fun _ _ h => h) hR.2 rfl)
            · intro us wn L hall hR a' ha'
              have g0 : us 0 = .pointer (some ⟨w.heap.size + 1, 2, none⟩) := hR.2 0 (hall 0 (by decide))
              have g1 : us 1 = .int .i64 xc := hR.2 1 (hall 1 (by decide))
              have g2 : us 2 = .slice (some p) ts.length cap := hR.2 2 (hall 2 (by decide))
              have g3 : us 3 = .int .i64 (k : Int) := hR.2 3 (hall 3 (by decide))
              have g4 : us 4 = .pointer (some q) := hR.2 4 (hall 4 (by decide))
              have g5 : us 5 = .pointer (some ⟨q.block, q.off + 2, none⟩) := hR.2 5 (hall 5 (by decide))
              have g6 : us 6 = .pointer (some ⟨q.block, q.off + 4, none⟩) := hR.2 6 (hall 6 (by decide))
              have g7 : us 7 = .int .i64 rc := hR.2 7 (hall 7 (by decide))
              have g8 : us 8 = .int .i64 yc := hR.2 8 (hall 8 (by decide))
              have g9 : us 9 = .pointer (some ⟨w.heap.size + 1, 2, none⟩) := hR.2 9 (hall 9 (by decide))
              have HB' : Hid (Box3 wn w.heap.size 37 0 0 0 ∧ Below w.heap.size w wn ∧ Box3 wn (w.heap.size + 1) 37 ya yb yc) := by
                have h := hR.1
                rw [hall 10 (by decide)] at h
                exact hid_of (by simpa using h)
              clear hR hall
              simp only [putAll, g0, g1, g2, g3, g4, g5, g6, g7, g8, g9] at ha'
              subst ha'
              go_frame
              clear HB
              go_wp2
              go_roundw
              case rel => exact ⟨k + 1, by omega, by go_num, HN.out wn HB'.out⟩
              case measure => simp [intOf]; omega
      | false =>
        simp only [Bool.false_eq_true, if_false, Int.add_zero] at HN
        have HN2 := HN.out wr HB.out
        clear HN HB ha hb hcs u
        go_wp2
        go_roundw
        case rel => exact ⟨k + 1, by omega, by go_num, HN2⟩
        case measure => simp [intOf]; omega
    · obtain rfl : k = 5 := by omega
      have b2 := HB.out.2.2
      have b1 := HB.out.1
      have k0 := b2.c0
      have k1 := b2.c1
      have k2 := b2.c2
      have r0 := b1.c0
      have r1 := b1.c1
      have r2 := b1.c2
      have f0 := b1.f0 0
      have f1 := b1.f0 1
      have f2 := b1.f0 2
      have HP := hid_of (b1.put (.int .i64 (sumN Re.a ts 5)) (.int .i64 (sumN Re.b ts 5)) (.int .i64 (sumN Re.c ts 5)))
      have HBB : Hid (Below w.heap.size w wr) := HB.out.2.1
      clear b1 b2 HB
      go_wp2
      obtain ⟨p0, p1, p2⟩ := HP.out
      refine bodyPost_ret (v := amt (sumN Re.a ts 5) (sumN Re.b ts 5) (sumN Re.c ts 5)) (by simp [results, go_sem, p0, p1, p2]) rfl ⟨rfl, below_put HBB.out (by omega) _ _ _⟩
end Go.Proofs.YtfcenombphodbaaDoor
