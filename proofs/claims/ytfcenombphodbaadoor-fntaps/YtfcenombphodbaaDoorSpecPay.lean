/-
  The model's TreePay.
-/
import Derived.Test.YtfcenombphodbaaDoorAns
namespace Go.Proofs.YtfcenombphodbaaDoor
open Go.RowKit
set_option linter.unusedVariables false
set_option maxRecDepth 100000

/-- A tree and whether it was done. -/
def TreeAns (n : Nat) (ts : List Re) (o : Bool) (w : World) (e : Ending) (w' : World) : Prop := ∃ g c rs, e = .returned (.tuple #[.slice (some ⟨g, 0, none⟩) n c, .bool o]) ∧ OwnT g c ts rs w.heap.size w'.heap.size w' ∧ Below w.heap.size w w'
theorem OwnT.more {g cap : Nat} {ts : List Re} {rest : List Value} {lo hi : Nat} {w : World} (h : OwnT g cap ts rest lo hi w) : OwnT g cap ts rest lo w.heap.size w := ⟨h.at', h.cap, h.lo, lt_of_block h.at'⟩
/-- What is there when 'from' has paid. -/
def payT (ts : List Re) (i : Int) (a b c : Int) : List Re := ts.set i.toNat { reAt ts i.toNat with a := (reAt ts i.toNat).a - a, b := (reAt ts i.toNat).b - b, c := (reAt ts i.toNat).c - c }
/-- May it pay? -/
def payOk (ts : List Re) (i : Int) (a b c : Int) : Bool := liveIn ts i && fitsIn a b c (reAt ts i.toNat).a (reAt ts i.toNat).b (reAt ts i.toNat).c
def payOf (ts : List Re) (i : Int) (a b c : Int) : List Re := if payOk ts i a b c then payT ts i a b c else ts
theorem OwnT.lower {g cap : Nat} {ts : List Re} {rest : List Value} {lo lo' hi : Nat} {w : World} (h : OwnT g cap ts rest lo hi w) (hl : lo' ≤ lo) : OwnT g cap ts rest lo' hi w := ⟨h.at', h.cap, Nat.le_trans hl h.lo, h.hi⟩

set_option maxRecDepth 100000 in
set_option maxHeartbeats 4000000 in
theorem specPay_any (p : Addr) (cap : Nat) (ts : List Re) (i a b c : Int) (w : World) (hx : IsTree w (.slice (some p) ts.length cap) ts) (hn : ts.length ≤ 1048576) :
    Calls Tryd.prog 30 #[.slice (some p) ts.length cap, .int .i64 i, amt a b c] w fun e w' => TreeAns ts.length (payOf ts i a b c) (payOk ts i a b c) w e w' := by
  have hb0 : Below w.heap.size w (w.alloc (boxA a b c)) := below_alloc w _
  have CC := specCopy_any p ts.length cap ts (w.alloc (boxA a b c)) (hx.on hb0) rfl hn
  have HCL : Hid (∀ w', Below w.heap.size w w' → Calls Tryd.prog 27 #[.slice (some p) ts.length cap, .int .i64 i] w' fun e w'' => e = .returned (.bool (liveIn ts i)) ∧ Below w'.heap.size w' w'') := fun w' hb => specLive_any _ ts i w' (hx.on hb) hn
  have HX0 : Hid (Box3 (w.alloc (boxA a b c)) w.heap.size 37 a b c) := ⟨heap_alloc_new w _⟩
  have HB0 : Hid (Below w.heap.size w (w.alloc (boxA a b c))) := hb0
  have HXX : Hid (IsTree w (.slice (some p) ts.length cap) ts) := hx
  have hcap : ts.length ≤ cap := by
    obtain ⟨a', cap', hv, hc, _⟩ := hx
    cases hv
    exact hc
  clear hx hb0
  cases hlive : liveIn ts i with
  | false =>
    have e1 : payOk ts i a b c = false := by simp [payOk, hlive]
    have e2 : payOf ts i a b c = ts := by simp [payOf, e1]
    rw [e1, e2]
    rw [hlive] at HCL
    clear hlive e1 e2 HXX
    go_enter Tryd.func30, Tryd.ntmps30
    go_wp2_with fail
    refine CC.mono ?_
    rintro e w1 ⟨g, c1, rs, rfl, ho, hb⟩
    have HB1 : Hid (Below w.heap.size w w1) := below_more HB0.out hb
    have HO1 := hid_of ho
    clear CC hb ho
    go_wp2_with fail
    refine (HCL.out w1 HB1.out).mono ?_
    rintro e w2 ⟨rfl, hb⟩
    have HB2 : Hid (Below w.heap.size w w2) := below_more HB1.out hb
    have HO2 := hid_of (HO1.out.on hb)
    clear HCL hb HO1
    go_wp2
    go_returns
    exact ⟨g, c1, rs, rfl, (HO2.out.lower (by simp)).more, HB2.out⟩
  | true =>
    have hok : treeOk ts = true := by unfold liveIn at hlive; simp at hlive; exact hlive.1.1
    have hl := treeOk_five hok
    obtain ⟨m, rfl, hm⟩ : ∃ m : Nat, i = (m : Int) ∧ m < 5 := by
      unfold liveIn at hlive; simp at hlive
      exact ⟨i.toNat, by omega, by omega⟩
    rw [hlive] at HCL
    have HL : Hid (ts.length = 5) := hl
    have hmi : (m : Int) < 5 := by omega
    obtain ⟨p', q, hpp, hq, hcw⟩ := HXX.out.at (i := m) (by omega)
    cases hpp
    have HQ : Hid (∀ w', Below w.heap.size w w' → Cells5 w' q (reAt ts m)) := fun w' hb => hcw.on hb
    have e1 : payOk ts (m : Int) a b c = fitsIn a b c (reAt ts m).a (reAt ts m).b (reAt ts m).c := by simp [payOk, hlive]
    cases hf : fitsIn a b c (reAt ts m).a (reAt ts m).b (reAt ts m).c with
    | false =>
      have e2 : payOf ts (m : Int) a b c = ts := by simp [payOf, e1, hf]
      have CS := fun w => specSub_no (reAt ts m).a (reAt ts m).b (reAt ts m).c a b c w hf
      rw [e1, e2, hf]
      rw [hl] at CC HCL hcap ⊢
      clear hlive e1 e2 HXX hok hl hcw hf
      generalize reAt ts m = r at HQ CS
      obtain ⟨l, p1, ra, rb, rc⟩ := r
      simp only at CS
      go_enter Tryd.func30, Tryd.ntmps30
      go_wp2_with fail
      refine CC.mono ?_
      rintro e w1 ⟨g, c1, rs, rfl, ho, hb⟩
      have HB1 : Hid (Below w.heap.size w w1) := below_more HB0.out hb
      have HO1 := hid_of ho
      have HX1 : Hid (Box3 w1 w.heap.size 37 a b c) := box_on HX0.out hb
      clear CC hb ho HX0 HB0
      go_wp2_with fail
      refine (HCL.out w1 HB1.out).mono ?_
      rintro e w2 ⟨rfl, hb⟩
      have HB2 : Hid (Below w.heap.size w w2) := below_more HB1.out hb
      have HO2 := hid_of (HO1.out.on hb)
      have HX2 : Hid (Box3 w2 w.heap.size 37 a b c) := box_on HX1.out hb
      clear HCL hb HO1 HX1 HB1
      go_wp2_with fail
      refine wp_region_whole (by kernel_rfl) (by kernel_rfl) (by kernel_rfl) (by kernel_rfl) (AnsR w2 10 11 [.slice (some p) 5 cap, .int .i64 (m : Int), .pointer (some q), .pointer (some ⟨q.block, q.off + 2, none⟩), amt ra rb rc, amt a b c, .tuple #[amt ra rb rc, .bool false], .tuple #[amt ra rb rc, .bool false], amt ra rb rc, .bool false, undef, undef, .bool false] ra rb rc) (ansR_start w2 10 11 _ _ _ _) ?_ ?_
      · refine ⟨?_, ?_, ?_, ?_, ?_, ?_, ?_, ?_, ?_, ?_, ?_, ?_, ?_, trivial⟩
        · intro b0 us wz L hslot hoth hLi hR hcl hdo K hK
          have s0 : b0.tmps.getD 0 undef = .slice (some p) 5 cap := hoth 0 (by rfl)
          clear hslot hoth hdo hcl hLi
          refine guard_none (by rfl) ?_
          go_simp
          exact hK _ _ (hR.mark (by decide) (by decide) (Below.refl _ _) rfl)
        · intro b0 us wz L hslot hoth hLi hR hcl hdo K hK
          have s1 : b0.tmps.getD 1 undef = .int .i64 (m : Int) := hoth 1 (by rfl)
          clear hslot hoth hdo hcl hLi
          refine guard_none (by rfl) ?_
          go_simp
          exact hK _ _ (hR.mark (by decide) (by decide) (Below.refl _ _) rfl)
        · intro b0 us wz L hslot hoth hLi hR hcl hdo K hK
          have s19 : b0.tmps.getD 19 undef = .slice (some p) 5 cap := (hslot 0 19 (by rfl)).trans (hR.vals 0 (done_at hdo 0 (by rfl)) (by decide))
          have s20 : b0.tmps.getD 20 undef = .int .i64 (m : Int) := (hslot 1 20 (by rfl)).trans (hR.vals 1 (done_at hdo 1 (by rfl)) (by decide))
          clear hslot hoth hdo hcl hLi
          refine guard_none (by rfl) ?_
          go_simp
          exact hK _ _ (hR.mark (by decide) (by decide) (Below.refl _ _) rfl)
        · intro b0 us wz L hslot hoth hLi hR hcl hdo K hK
          have s21 : b0.tmps.getD 21 undef = .pointer (some q) := (hslot 2 21 (by rfl)).trans (hR.vals 2 (done_at hdo 2 (by rfl)) (by decide))
          clear hslot hoth hdo hcl hLi
          refine guard_none (by rfl) ?_
          go_simp
          exact hK _ _ (hR.mark (by decide) (by decide) (Below.refl _ _) rfl)
        · intro b0 us wz L hslot hoth hLi hR hcl hdo K hK
          have s22 : b0.tmps.getD 22 undef = .pointer (some ⟨q.block, q.off + 2, none⟩) := (hslot 3 22 (by rfl)).trans (hR.vals 3 (done_at hdo 3 (by rfl)) (by decide))
          have cc := HQ.out wz (below_more HB2.out hR.below)
          have k2 := cc.c2
          have k3 := cc.c3
          have k4 := cc.c4
          simp only at k2 k3 k4
          clear cc
          clear hslot hoth hdo hcl hLi
          refine guard_none (by rfl) ?_
          go_simp
          exact hK _ _ (hR.mark (by decide) (by decide) (Below.refl _ _) rfl)
        · intro b0 us wz L hslot hoth hLi hR hcl hdo K hK
          have s5 : b0.tmps.getD 5 undef = .pointer (some ⟨w.heap.size, 0, none⟩) := hoth 5 (by rfl)
          have bb := box_on HX2.out hR.below
          have k0 := bb.c0
          have k1 := bb.c1
          have k2 := bb.c2
          clear bb
          clear hslot hoth hdo hcl hLi
          refine guard_none (by rfl) ?_
          go_simp
          exact hK _ _ (hR.mark (by decide) (by decide) (Below.refl _ _) rfl)
        · intro b0 us wz L hslot hoth hLi hR hcl hdo K hK
          have s23 : b0.tmps.getD 23 undef = amt ra rb rc := (hslot 4 23 (by rfl)).trans (hR.vals 4 (done_at hdo 4 (by rfl)) (by decide))
          have s24 : b0.tmps.getD 24 undef = amt a b c := (hslot 5 24 (by rfl)).trans (hR.vals 5 (done_at hdo 5 (by rfl)) (by decide))
          clear hslot hoth hdo hcl hLi
          refine guard_none (by rfl) ?_
          go_simp
          refine (CS wz).mono ?_
          rintro e w' ⟨rfl, hb⟩
          exact hK _ _ (hR.mark (by decide) (by decide) hb rfl)
        · intro b0 us wz L hslot hoth hLi hR hcl hdo K hK
          have s25 : b0.tmps.getD 25 undef = .tuple #[amt ra rb rc, .bool false] := (hslot 6 25 (by rfl)).trans (hR.vals 6 (done_at hdo 6 (by rfl)) (by decide))
          clear hslot hoth hdo hcl hLi
          refine guard_none (by rfl) ?_
          go_simp
          exact hK _ _ (hR.mark (by decide) (by decide) (Below.refl _ _) rfl)
        · intro b0 us wz L hslot hoth hLi hR hcl hdo K hK
          have s18 : b0.tmps.getD 18 undef = .tuple #[amt ra rb rc, .bool false] := (hslot 7 18 (by rfl)).trans (hR.vals 7 (done_at hdo 7 (by rfl)) (by decide))
          clear hslot hoth hdo hcl hLi
          refine guard_none (by rfl) ?_
          go_simp
          exact hK _ _ (hR.mark (by decide) (by decide) (Below.refl _ _) rfl)
        · intro b0 us wz L hslot hoth hLi hR hcl hdo K hK
          have s18 : b0.tmps.getD 18 undef = .tuple #[amt ra rb rc, .bool false] := (hslot 7 18 (by rfl)).trans (hR.vals 7 (done_at hdo 7 (by rfl)) (by decide))
          clear hslot hoth hdo hcl hLi
          refine guard_none (by rfl) ?_
          go_simp
          exact hK _ _ (hR.mark (by decide) (by decide) (Below.refl _ _) rfl)
        · intro b0 us wz L hslot hoth hLi hR hcl hdo K hK
          have hs : L 11 = false := by
            cases h : L 11 with
            | false => rfl
            | true => rw [done_at (hcl 11 _ rfl h) 10 (by rfl)] at hLi; cases hLi
          clear hslot hoth hdo hcl hLi
          refine guard_none (by rfl) ?_
          go_simp
          exact hK _ _ (hR.new (by decide) hs)
        · intro b0 us wz L hslot hoth hLi hR hcl hdo K hK
          have da := done_at hdo 10 (by rfl)
          obtain ⟨gb, p_, q_, r_, hu, hge, hbx, _⟩ := hR.box da
          have s9 : b0.tmps.getD 9 undef = .pointer (some ⟨gb, 0, none⟩) := (hslot 10 9 (by rfl)).trans hu
          have s26 : b0.tmps.getD 26 undef = amt ra rb rc := (hslot 8 26 (by rfl)).trans (hR.vals 8 (done_at hdo 8 (by rfl)) (by decide))
          have k0 := hbx.c0
          have k1 := hbx.c1
          have k2 := hbx.c2
          have f0 := hbx.f0 0
          have f1 := hbx.f0 1
          have f2 := hbx.f0 2
          clear hslot hoth hdo hcl hLi
          refine guard_none (by rfl) ?_
          go_simp
          exact hK undef _ (hR.put (by decide) rfl da hu)
        · intro b0 us wz L hslot hoth hLi hR hcl hdo K hK
          have s27 : b0.tmps.getD 27 undef = .bool false := (hslot 9 27 (by rfl)).trans (hR.vals 9 (done_at hdo 9 (by rfl)) (by decide))
          clear hslot hoth hdo hcl hLi
          refine guard_none (by rfl) ?_
          go_simp
          exact hK _ _ (hR.mark (by decide) (by decide) (Below.refl _ _) rfl)
      · intro us wn L hall hR a' ha'
        have g0 : us 0 = .slice (some p) 5 cap := hR.vals 0 (hall 0 (by decide)) (by decide)
        have g1 : us 1 = .int .i64 (m : Int) := hR.vals 1 (hall 1 (by decide)) (by decide)
        have g2 : us 2 = .pointer (some q) := hR.vals 2 (hall 2 (by decide)) (by decide)
        have g3 : us 3 = .pointer (some ⟨q.block, q.off + 2, none⟩) := hR.vals 3 (hall 3 (by decide)) (by decide)
        have g4 : us 4 = amt ra rb rc := hR.vals 4 (hall 4 (by decide)) (by decide)
        have g5 : us 5 = amt a b c := hR.vals 5 (hall 5 (by decide)) (by decide)
        have g6 : us 6 = .tuple #[amt ra rb rc, .bool false] := hR.vals 6 (hall 6 (by decide)) (by decide)
        have g7 : us 7 = .tuple #[amt ra rb rc, .bool false] := hR.vals 7 (hall 7 (by decide)) (by decide)
        have g8 : us 8 = amt ra rb rc := hR.vals 8 (hall 8 (by decide)) (by decide)
        have g9 : us 9 = .bool false := hR.vals 9 (hall 9 (by decide)) (by decide)
        have g12 : us 12 = .bool false := hR.vals 12 (hall 12 (by decide)) (by decide)
        obtain ⟨gb, p_, q_, r_, g10, hge, hbx, hfill⟩ := hR.box (hall 10 (by decide))
        obtain ⟨h1_, h2_, h3_⟩ := hfill (hall 11 (by decide))
        rw [h1_, h2_, h3_] at hbx
        clear h1_ h2_ h3_ hfill
        have HBN : Hid (Below w2.heap.size w2 wn) := hR.below
        have HGB : Hid (w2.heap.size ≤ gb) := hge
        have HBX : Hid (Box3 wn gb 37 ra rb rc) := hbx
        clear hR hall
        simp only [putAll, g0, g1, g2, g3, g4, g5, g6, g7, g8, g9, g10, g12] at ha'
        subst ha'
        go_frame
        have HB3 : Hid (Below w.heap.size w wn) := below_more HB2.out HBN.out
        have HO3 := hid_of (HO2.out.on HBN.out)
        clear HBN HO2 HB2 HX2 HQ CS HBX
        go_wp2
        go_returns
        exact ⟨g, c1, rs, rfl, (HO3.out.lower (by simp)).more, HB3.out⟩
    | true =>
      have e2 : payOf ts (m : Int) a b c = payT ts (m : Int) a b c := by simp [payOf, e1, hf]
      have CS := fun w => specSub_yes (reAt ts m).a (reAt ts m).b (reAt ts m).c a b c w hf
      rw [e1, e2, hf]
      rw [hl] at CC HCL hcap ⊢
      have HPT : Hid (∀ r, reAt ts m = r → payT ts (m : Int) a b c = ts.set m ⟨r.live, r.par, r.a - a, r.b - b, r.c - c⟩) := fun r hr => by simp [payT, hr]
      clear hlive e1 e2 HXX hok hl hcw hf
      obtain ⟨r, hr⟩ : ∃ r, reAt ts m = r := ⟨_, rfl⟩
      have HPT' := hid_of (HPT.out r hr)
      have HR : Hid (reAt ts m = r) := hr
      rw [hr] at HQ CS
      clear hr HPT
      obtain ⟨l, p1, ra, rb, rc⟩ := r
      simp only at CS HPT'
      obtain ⟨xa, hxa⟩ : ∃ x, x = ra - a := ⟨_, rfl⟩
      obtain ⟨xb, hxb⟩ : ∃ x, x = rb - b := ⟨_, rfl⟩
      obtain ⟨xc, hxc⟩ : ∃ x, x = rc - c := ⟨_, rfl⟩
      rw [← hxa, ← hxb, ← hxc] at CS HPT'
      rw [HPT'.out]
      clear hxa hxb hxc HPT'
      go_enter Tryd.func30, Tryd.ntmps30
      go_wp2_with fail
      refine CC.mono ?_
      rintro e w1 ⟨g, c1, rs, rfl, ho, hb⟩
      have HB1 : Hid (Below w.heap.size w w1) := below_more HB0.out hb
      have HO1 := hid_of ho
      have HX1 : Hid (Box3 w1 w.heap.size 37 a b c) := box_on HX0.out hb
      clear CC hb ho HX0 HB0
      go_wp2_with fail
      refine (HCL.out w1 HB1.out).mono ?_
      rintro e w2 ⟨rfl, hb⟩
      have HB2 : Hid (Below w.heap.size w w2) := below_more HB1.out hb
      have HO2 := hid_of (HO1.out.on hb)
      have HX2 : Hid (Box3 w2 w.heap.size 37 a b c) := box_on HX1.out hb
      clear HCL hb HO1 HX1 HB1
      go_wp2_with fail
      refine wp_region_whole (by kernel_rfl) (by kernel_rfl) (by kernel_rfl) (by kernel_rfl) (AnsR w2 10 11 [.slice (some p) 5 cap, .int .i64 (m : Int), .pointer (some q), .pointer (some ⟨q.block, q.off + 2, none⟩), amt ra rb rc, amt a b c, .tuple #[amt xa xb xc, .bool true], .tuple #[amt xa xb xc, .bool true], amt xa xb xc, .bool true, undef, undef, .bool true] xa xb xc) (ansR_start w2 10 11 _ _ _ _) ?_ ?_
      · refine ⟨?_, ?_, ?_, ?_, ?_, ?_, ?_, ?_, ?_, ?_, ?_, ?_, ?_, trivial⟩
        · intro b0 us wz L hslot hoth hLi hR hcl hdo K hK
          have s0 : b0.tmps.getD 0 undef = .slice (some p) 5 cap := hoth 0 (by rfl)
          clear hslot hoth hdo hcl hLi
          refine guard_none (by rfl) ?_
          go_simp
          exact hK _ _ (hR.mark (by decide) (by decide) (Below.refl _ _) rfl)
        · intro b0 us wz L hslot hoth hLi hR hcl hdo K hK
          have s1 : b0.tmps.getD 1 undef = .int .i64 (m : Int) := hoth 1 (by rfl)
          clear hslot hoth hdo hcl hLi
          refine guard_none (by rfl) ?_
          go_simp
          exact hK _ _ (hR.mark (by decide) (by decide) (Below.refl _ _) rfl)
        · intro b0 us wz L hslot hoth hLi hR hcl hdo K hK
          have s19 : b0.tmps.getD 19 undef = .slice (some p) 5 cap := (hslot 0 19 (by rfl)).trans (hR.vals 0 (done_at hdo 0 (by rfl)) (by decide))
          have s20 : b0.tmps.getD 20 undef = .int .i64 (m : Int) := (hslot 1 20 (by rfl)).trans (hR.vals 1 (done_at hdo 1 (by rfl)) (by decide))
          clear hslot hoth hdo hcl hLi
          refine guard_none (by rfl) ?_
          go_simp
          exact hK _ _ (hR.mark (by decide) (by decide) (Below.refl _ _) rfl)
        · intro b0 us wz L hslot hoth hLi hR hcl hdo K hK
          have s21 : b0.tmps.getD 21 undef = .pointer (some q) := (hslot 2 21 (by rfl)).trans (hR.vals 2 (done_at hdo 2 (by rfl)) (by decide))
          clear hslot hoth hdo hcl hLi
          refine guard_none (by rfl) ?_
          go_simp
          exact hK _ _ (hR.mark (by decide) (by decide) (Below.refl _ _) rfl)
        · intro b0 us wz L hslot hoth hLi hR hcl hdo K hK
          have s22 : b0.tmps.getD 22 undef = .pointer (some ⟨q.block, q.off + 2, none⟩) := (hslot 3 22 (by rfl)).trans (hR.vals 3 (done_at hdo 3 (by rfl)) (by decide))
          have cc := HQ.out wz (below_more HB2.out hR.below)
          have k2 := cc.c2
          have k3 := cc.c3
          have k4 := cc.c4
          simp only at k2 k3 k4
          clear cc
          clear hslot hoth hdo hcl hLi
          refine guard_none (by rfl) ?_
          go_simp
          exact hK _ _ (hR.mark (by decide) (by decide) (Below.refl _ _) rfl)
        · intro b0 us wz L hslot hoth hLi hR hcl hdo K hK
          have s5 : b0.tmps.getD 5 undef = .pointer (some ⟨w.heap.size, 0, none⟩) := hoth 5 (by rfl)
          have bb := box_on HX2.out hR.below
          have k0 := bb.c0
          have k1 := bb.c1
          have k2 := bb.c2
          clear bb
          clear hslot hoth hdo hcl hLi
          refine guard_none (by rfl) ?_
          go_simp
          exact hK _ _ (hR.mark (by decide) (by decide) (Below.refl _ _) rfl)
        · intro b0 us wz L hslot hoth hLi hR hcl hdo K hK
          have s23 : b0.tmps.getD 23 undef = amt ra rb rc := (hslot 4 23 (by rfl)).trans (hR.vals 4 (done_at hdo 4 (by rfl)) (by decide))
          have s24 : b0.tmps.getD 24 undef = amt a b c := (hslot 5 24 (by rfl)).trans (hR.vals 5 (done_at hdo 5 (by rfl)) (by decide))
          clear hslot hoth hdo hcl hLi
          refine guard_none (by rfl) ?_
          go_simp
          refine (CS wz).mono ?_
          rintro e w' ⟨rfl, hb⟩
          exact hK _ _ (hR.mark (by decide) (by decide) hb rfl)
        · intro b0 us wz L hslot hoth hLi hR hcl hdo K hK
          have s25 : b0.tmps.getD 25 undef = .tuple #[amt xa xb xc, .bool true] := (hslot 6 25 (by rfl)).trans (hR.vals 6 (done_at hdo 6 (by rfl)) (by decide))
          clear hslot hoth hdo hcl hLi
          refine guard_none (by rfl) ?_
          go_simp
          exact hK _ _ (hR.mark (by decide) (by decide) (Below.refl _ _) rfl)
        · intro b0 us wz L hslot hoth hLi hR hcl hdo K hK
          have s18 : b0.tmps.getD 18 undef = .tuple #[amt xa xb xc, .bool true] := (hslot 7 18 (by rfl)).trans (hR.vals 7 (done_at hdo 7 (by rfl)) (by decide))
          clear hslot hoth hdo hcl hLi
          refine guard_none (by rfl) ?_
          go_simp
          exact hK _ _ (hR.mark (by decide) (by decide) (Below.refl _ _) rfl)
        · intro b0 us wz L hslot hoth hLi hR hcl hdo K hK
          have s18 : b0.tmps.getD 18 undef = .tuple #[amt xa xb xc, .bool true] := (hslot 7 18 (by rfl)).trans (hR.vals 7 (done_at hdo 7 (by rfl)) (by decide))
          clear hslot hoth hdo hcl hLi
          refine guard_none (by rfl) ?_
          go_simp
          exact hK _ _ (hR.mark (by decide) (by decide) (Below.refl _ _) rfl)
        · intro b0 us wz L hslot hoth hLi hR hcl hdo K hK
          have hs : L 11 = false := by
            cases h : L 11 with
            | false => rfl
            | true => rw [done_at (hcl 11 _ rfl h) 10 (by rfl)] at hLi; cases hLi
          clear hslot hoth hdo hcl hLi
          refine guard_none (by rfl) ?_
          go_simp
          exact hK _ _ (hR.new (by decide) hs)
        · intro b0 us wz L hslot hoth hLi hR hcl hdo K hK
          have da := done_at hdo 10 (by rfl)
          obtain ⟨gb, p_, q_, r_, hu, hge, hbx, _⟩ := hR.box da
          have s9 : b0.tmps.getD 9 undef = .pointer (some ⟨gb, 0, none⟩) := (hslot 10 9 (by rfl)).trans hu
          have s26 : b0.tmps.getD 26 undef = amt xa xb xc := (hslot 8 26 (by rfl)).trans (hR.vals 8 (done_at hdo 8 (by rfl)) (by decide))
          have k0 := hbx.c0
          have k1 := hbx.c1
          have k2 := hbx.c2
          have f0 := hbx.f0 0
          have f1 := hbx.f0 1
          have f2 := hbx.f0 2
          clear hslot hoth hdo hcl hLi
          refine guard_none (by rfl) ?_
          go_simp
          exact hK undef _ (hR.put (by decide) rfl da hu)
        · intro b0 us wz L hslot hoth hLi hR hcl hdo K hK
          have s27 : b0.tmps.getD 27 undef = .bool true := (hslot 9 27 (by rfl)).trans (hR.vals 9 (done_at hdo 9 (by rfl)) (by decide))
          clear hslot hoth hdo hcl hLi
          refine guard_none (by rfl) ?_
          go_simp
          exact hK _ _ (hR.mark (by decide) (by decide) (Below.refl _ _) rfl)
      · intro us wn L hall hR a' ha'
        have g0 : us 0 = .slice (some p) 5 cap := hR.vals 0 (hall 0 (by decide)) (by decide)
        have g1 : us 1 = .int .i64 (m : Int) := hR.vals 1 (hall 1 (by decide)) (by decide)
        have g2 : us 2 = .pointer (some q) := hR.vals 2 (hall 2 (by decide)) (by decide)
        have g3 : us 3 = .pointer (some ⟨q.block, q.off + 2, none⟩) := hR.vals 3 (hall 3 (by decide)) (by decide)
        have g4 : us 4 = amt ra rb rc := hR.vals 4 (hall 4 (by decide)) (by decide)
        have g5 : us 5 = amt a b c := hR.vals 5 (hall 5 (by decide)) (by decide)
        have g6 : us 6 = .tuple #[amt xa xb xc, .bool true] := hR.vals 6 (hall 6 (by decide)) (by decide)
        have g7 : us 7 = .tuple #[amt xa xb xc, .bool true] := hR.vals 7 (hall 7 (by decide)) (by decide)
        have g8 : us 8 = amt xa xb xc := hR.vals 8 (hall 8 (by decide)) (by decide)
        have g9 : us 9 = .bool true := hR.vals 9 (hall 9 (by decide)) (by decide)
        have g12 : us 12 = .bool true := hR.vals 12 (hall 12 (by decide)) (by decide)
        obtain ⟨gb, p_, q_, r_, g10, hge, hbx, hfill⟩ := hR.box (hall 10 (by decide))
        obtain ⟨h1_, h2_, h3_⟩ := hfill (hall 11 (by decide))
        rw [h1_, h2_, h3_] at hbx
        clear h1_ h2_ h3_ hfill
        have HBN : Hid (Below w2.heap.size w2 wn) := hR.below
        have HGB : Hid (w2.heap.size ≤ gb) := hge
        have HBX : Hid (Box3 wn gb 37 xa xb xc) := hbx
        clear hR hall
        simp only [putAll, g0, g1, g2, g3, g4, g5, g6, g7, g8, g9, g10, g12] at ha'
        subst ha'
        go_frame
        have HB3 : Hid (Below w.heap.size w wn) := below_more HB2.out HBN.out
        have ho3 := HO2.out.on HBN.out
        have hml : m < ts.length := by rw [HL.out]; exact hm
        have hc5 : c1 = c1 := rfl
        have hcp : 5 ≤ c1 := by have := ho3.cap; rw [HL.out] at this; exact this
        have d := ho3.at'.cell m hml
        have d2 := d.c2
        have d3 := d.c3
        have d4 := d.c4
        simp only at d2 d3 d4
        have f2 := ho3.at'.free (m * 5 + 2)
        have f3 := ho3.at'.free (m * 5 + 3)
        have f4 := ho3.at'.free (m * 5 + 4)
        have t2 := ho3.at'.put2 m hml xa
        have t3 := t2.put3 m (by simpa using hml) xb
        rw [reAt_set _ _ _ hml, List.set_set] at t3
        have t4 := t3.put4 m (by simpa using hml) xc
        rw [reAt_set _ _ _ hml, List.set_set, HR.out] at t4
        have k0 := HBX.out.c0
        have k1 := HBX.out.c1
        have k2 := HBX.out.c2
        have HT : Hid (OwnT g c1 (ts.set m ⟨l, p1, xa, xb, xc⟩) rs w.heap.size (((wn.setCell ⟨g, m * 5 + 2, none⟩ (.int .i64 xa)).setCell ⟨g, m * 5 + 3, none⟩ (.int .i64 xb)).setCell ⟨g, m * 5 + 4, none⟩ (.int .i64 xc)).heap.size (((wn.setCell ⟨g, m * 5 + 2, none⟩ (.int .i64 xa)).setCell ⟨g, m * 5 + 3, none⟩ (.int .i64 xb)).setCell ⟨g, m * 5 + 4, none⟩ (.int .i64 xc))) :=
          ⟨t4, by simpa using ho3.cap, by have := ho3.lo; simp at this; omega, by have := lt_of_block t4; exact this⟩
        have HB4 : Hid (Below w.heap.size w (((wn.setCell ⟨g, m * 5 + 2, none⟩ (.int .i64 xa)).setCell ⟨g, m * 5 + 3, none⟩ (.int .i64 xb)).setCell ⟨g, m * 5 + 4, none⟩ (.int .i64 xc))) := by
          have hlo : w.heap.size ≤ g := by have := ho3.lo; simp at this; omega
          exact ((HB3.out.setCell (p := ⟨g, _, none⟩) hlo _).setCell (p := ⟨g, _, none⟩) hlo _).setCell (p := ⟨g, _, none⟩) hlo _
        generalize (reAt ts m).a = o2 at d2
        generalize (reAt ts m).b = o3 at d3
        generalize (reAt ts m).c = o4 at d4
        clear HBN HO2 HB2 HX2 HQ CS HBX ho3 d t2 t3 t4 HB3 HR
        go_wp2
        go_returns
        exact ⟨g, c1, rs, rfl, HT.out, HB4.out⟩
end Go.Proofs.YtfcenombphodbaaDoor
