/-
  The program's TreeOk, TreeSum and TreeNew.
-/
import Derived.Test.YtfgcokcmmcpajaaIBal
namespace Go.Proofs.Ytfgcokcmmcpajaa
open Go.RowKit
set_option linter.unusedVariables false

set_option maxHeartbeats 2000000 in
theorem implTreeOk_any (v : Value) (ts : List Re) (w : World) (hx : IsTree w v ts) (hn : ts.length ≤ 1048576) :
    Calls Try.prog 9 #[v] w fun e w' => e = .returned (.bool (treeOk ts)) ∧ Below w.heap.size w w' := by
  have hx0 := hx
  obtain ⟨a, cap, rfl, hcap, _⟩ := hx
  rw [← implOk_eq]
  by_cases hl : ts.length = 5
  · rw [hl] at hx0 hcap ⊢
    obtain ⟨p, q0, rfl, hq0, hc0⟩ := hx0.at (i := 0) (by omega)
    have e0 := hc0.c0
    have e1 := hc0.c1
    have hq0' : p.add 0 = q0 := hq0
    by_cases hr : (reAt ts 0).live = true
    · rw [hr] at e0
      by_cases hp : (reAt ts 0).par = -1
      · rw [hp] at e1
        have CB := implBal_any (some p) cap ts w hx0 hl hcap
        have HCD : Hid (∀ w', Below w.heap.size w w' → Calls Try.prog 24 #[.slice (some p) 5 cap] w' fun e w'' => e = .returned (.bool (deadZ ts)) ∧ Below w'.heap.size w' w'') := fun w' hb => implDead_any (some p) cap ts w' (hx0.on hb) hl hcap _ rfl
        have HCC : Hid (∀ w', Below w.heap.size w w' → Calls Try.prog 25 #[.slice (some p) 5 cap] w' fun e w'' => e = .returned (.bool (allClimb ts)) ∧ w' = w'') := fun w' hb => implClimb_any (some p) cap ts w' (hx0.on hb) hl hcap _ rfl
        have ei : implOk ts = (balOk ts 5 && deadZ ts && allClimb ts) := by simp [implOk, hl, hr, hp]
        rw [ei]
        clear ei
        generalize balS Re.a ts = sa at CB
        generalize balS Re.b ts = sb at CB
        generalize balS Re.c ts = sc at CB
        generalize balOk ts 5 = o1 at CB ⊢
        generalize deadZ ts = o2 at HCD ⊢
        generalize allClimb ts = o3 at HCC ⊢
        clear hx0 hc0 hq0 hr hp hl
        go_enter Try.func9, Try.ntmps9
        go_wp2_with fail
        refine CB.mono ?_
        rintro e w1 ⟨rfl, hb⟩
        have HB1 : Hid (Below w.heap.size w w1) := hb
        have HB2 : Hid (Below w.heap.size w (w1.alloc (boxA sa sb sc))) := below_more hb (below_alloc _ _)
        clear CB hb e0 e1 hq0'
        cases o1 with
        | false =>
          go_wp2
          go_ret
          exact ⟨by simp, HB2.out⟩
        | true =>
          cases o2 with
          | false =>
            go_wp2_with fail
            refine (HCD.out _ HB2.out).mono ?_
            rintro e w2 ⟨rfl, hb⟩
            have HB3 : Hid (Below w.heap.size w w2) := below_more HB2.out hb
            clear HCD HCC hb HB1 HB2
            go_wp2
            go_ret
            exact ⟨by simp, HB3.out⟩
          | true =>
            go_wp2_with fail
            refine (HCD.out _ HB2.out).mono ?_
            rintro e w2 ⟨rfl, hb⟩
            have HB3 : Hid (Below w.heap.size w w2) := below_more HB2.out hb
            clear HCD hb HB1 HB2
            go_wp2_with fail
            refine (HCC.out _ HB3.out).mono ?_
            rintro e w3 ⟨rfl, hw3⟩
            subst hw3
            clear HCC
            go_wp2
            go_ret
            exact ⟨by simp, HB3.out⟩
      · have ei : implOk ts = false := by simp [implOk, hl, hr, hp]
        rw [ei]
        generalize (reAt ts 0).par = p1 at e1 hp
        have hne : (p1 != -1) = true := by simpa using hp
        clear hx0 hc0 hq0 hr ei hl
        go_enter Try.func9, Try.ntmps9
        go_wp2
        go_ret
        exact ⟨rfl, Below.refl _ _⟩
    · have hr' : (reAt ts 0).live = false := by simpa using hr
      have ei : implOk ts = false := by simp [implOk, hr']
      rw [ei]
      rw [hr'] at e0
      clear hx0 hc0 hq0 hr hr' ei hl
      go_enter Try.func9, Try.ntmps9
      go_wp2
      go_ret
      exact ⟨rfl, Below.refl _ _⟩
  · have ei : implOk ts = false := by simp [implOk, hl]
    rw [ei]
    have hne : ((ts.length : Int) != 5) = true := by simp; omega
    clear hx0 ei
    go_enter Try.func9, Try.ntmps9
    go_wp2
    go_ret
    exact ⟨rfl, Below.refl _ _⟩

set_option maxHeartbeats 2000000 in
theorem implTreeSum_any (v : Value) (ts : List Re) (w : World) (hx : IsTree w v ts) (hn : ts.length ≤ 1048576) :
    Calls Try.prog 17 #[v] w fun e w' => e = .returned (amt (sumT Re.a ts) (sumT Re.b ts) (sumT Re.c ts)) ∧ Below w.heap.size w w' := by
  have hb0 : Below w.heap.size w (w.alloc (boxA 0 0 0)) := below_alloc w _
  have hbx : Box3 (w.alloc (boxA 0 0 0)) w.heap.size 33 0 0 0 := ⟨heap_alloc_new w _⟩
  have C := implTreeOk_any v ts (w.alloc (boxA 0 0 0)) (hx.on hb0) hn
  have hx0 := hx
  obtain ⟨a, cap, rfl, hcap, _⟩ := hx
  have HB0 : Hid (Below w.heap.size w (w.alloc (boxA 0 0 0))) := hb0
  have HX0 : Hid (Box3 (w.alloc (boxA 0 0 0)) w.heap.size 33 0 0 0) := hbx
  clear hb0 hbx
  cases hok : treeOk ts with
  | false =>
    have e1 : ∀ f, sumT f ts = 0 := fun f => by simp [sumT, hok]
    rw [e1, e1, e1]
    rw [hok] at C
    clear hok e1 hx0
    go_enter Try.func17, Try.ntmps17
    go_wp2_with fail
    refine C.mono ?_
    rintro e w1 ⟨rfl, hb⟩
    have b1 : Box3 w1 w.heap.size 33 0 0 0 := box_on HX0.out hb
    have HB1 : Hid (Below w.heap.size w w1) := below_more HB0.out hb
    have r0 := b1.c0
    have r1 := b1.c1
    have r2 := b1.c2
    have f0 := b1.f0 0
    have f1 := b1.f0 1
    have f2 := b1.f0 2
    have HP := hid_of (b1.put (.int .i64 0) (.int .i64 0) (.int .i64 0))
    clear C hb b1
    go_wp2
    obtain ⟨p0, p1, p2⟩ := HP.out
    refine bodyPost_ret (v := amt 0 0 0) (by simp [results, go_sem, p0, p1, p2]) rfl ⟨rfl, below_put HB1.out (Nat.le_refl _) _ _ _⟩
  | true =>
    have hl := treeOk_five hok
    have e1 : ∀ f, sumT f ts = sumN f ts 5 := fun f => by simp [sumT, hok]
    have hbo : balOk ts 5 = true := (implOk_parts (by rw [implOk_eq]; exact hok)).2.2.2.1
    have e2 : ∀ f, balS f ts = sumN f ts 5 := fun f => by simp [balS, hbo]
    rw [e1, e1, e1]
    rw [hok] at C
    have HC : Hid (∀ w', Below w.heap.size w w' → Calls Try.prog 23 #[.slice a ts.length cap] w' fun e w'' => e = .returned (.tuple #[amt (sumN Re.a ts 5) (sumN Re.b ts 5) (sumN Re.c ts 5), .bool true]) ∧ Below w'.heap.size w' w'') := fun w' hb => by
      have := implBal_any a cap ts w' (by have := hx0.on hb; rw [hl] at this; exact this) hl (by omega)
      rw [e2, e2, e2, hbo] at this
      rw [hl]
      exact this
    generalize sumN Re.a ts 5 = s1 at HC ⊢
    generalize sumN Re.b ts 5 = s2 at HC ⊢
    generalize sumN Re.c ts 5 = s3 at HC ⊢
    clear hok e1 hx0 hl hbo e2
    go_enter Try.func17, Try.ntmps17
    go_wp2_with fail
    refine C.mono ?_
    rintro e w1 ⟨rfl, hb⟩
    have HX1 : Hid (Box3 w1 w.heap.size 33 0 0 0) := box_on HX0.out hb
    have HB1 : Hid (Below w.heap.size w w1) := below_more HB0.out hb
    clear C hb
    go_wp2_with fail
    refine (HC.out w1 HB1.out).mono ?_
    rintro e w2 ⟨rfl, hb⟩
    have b1 : Box3 (w2.alloc (boxA s1 s2 s3)) w.heap.size 33 0 0 0 := box_on (box_on HX1.out hb) (below_alloc _ _)
    have HB2 : Hid (Below w.heap.size w (w2.alloc (boxA s1 s2 s3))) := below_more (below_more HB1.out hb) (below_alloc _ _)
    have r0 := b1.c0
    have r1 := b1.c1
    have r2 := b1.c2
    have f0 := b1.f0 0
    have f1 := b1.f0 1
    have f2 := b1.f0 2
    have HP := hid_of (b1.put (.int .i64 s1) (.int .i64 s2) (.int .i64 s3))
    clear HC hb b1
    go_wp2
    obtain ⟨p0, p1, p2⟩ := HP.out
    refine bodyPost_ret (v := amt s1 s2 s3) (by simp [results, go_sem, p0, p1, p2]) rfl ⟨rfl, below_put HB2.out (Nat.le_refl _) _ _ _⟩
theorem implNew_no (a b c : Int) (w : World) (hok : amtOk a b c = false) :
    Calls Try.prog 13 #[amt a b c] w fun e w' => e = .returned (.tuple #[.slice none 0 0, .bool false]) ∧ Below w.heap.size w w' := by
  have CA := fun w => implAmtOk_in a b c w
  rw [hok] at CA
  clear hok
  go_enter Try.func13, Try.ntmps13
  go_wp2_with fail
  refine (CA _).mono ?_
  rintro e w1 ⟨rfl, rfl⟩
  go_wp2
  go_returns
  exact ⟨rfl, by go_grown⟩
set_option maxHeartbeats 2000000 in
theorem implNew_yes (a b c : Int) (w : World) (hok : amtOk a b c = true) :
    Calls Try.prog 13 #[amt a b c] w fun e w' => TreeAns 5 [⟨true, -1, a, b, c⟩, noRe, noRe, noRe, noRe] true w e w' := by
  have CA := fun w => implAmtOk_in a b c w
  rw [hok] at CA
  clear hok
  obtain ⟨W0, hW0⟩ : ∃ W0, W0 = ((((w.alloc (boxA a b c)).alloc (boxA a b c)).alloc (boxA a b c)).alloc (boxN a b c)).alloc (boxN a b c) := ⟨_, rfl⟩
  have hm : (Instr.makeSlice 25 (.int .i64 5) (.int .i64 5)).run Try.prog W0 = .ok (.slice (some ⟨W0.heap.size, 0, none⟩) 5 5) (W0.alloc (.cells (rcells (List.replicate 5 noRe)).toArray 40 (0, 0))) := make_tree 5 (by decide) W0
  have hta : TreeAt (W0.alloc (.cells (rcells (List.replicate 5 noRe)).toArray 40 (0, 0))) W0.heap.size (List.replicate 5 noRe) := heap_alloc_new W0 _
  have hbx : Box3 (W0.alloc (.cells (rcells (List.replicate 5 noRe)).toArray 40 (0, 0))) w.heap.size 33 a b c := by
    have h0 : Box3 (w.alloc (boxA a b c)) w.heap.size 33 a b c := ⟨heap_alloc_new w _⟩
    have h1 : Box3 W0 w.heap.size 33 a b c := by
      rw [hW0]
      exact box_on (box_on (box_on (box_on h0 (below_alloc _ _)) (below_alloc _ _)) (below_alloc _ _)) (below_alloc _ _)
    exact box_on h1 (below_alloc _ _)
  have hbw : Below w.heap.size w (W0.alloc (.cells (rcells (List.replicate 5 noRe)).toArray 40 (0, 0))) := by
    have : Below w.heap.size w W0 := by rw [hW0]; go_grown
    exact below_more this (below_alloc _ _)
  have hsz : w.heap.size ≤ W0.heap.size := by rw [hW0]; simp; omega
  obtain ⟨W, hW⟩ : ∃ W, W = W0.alloc (.cells (rcells (List.replicate 5 noRe)).toArray 40 (0, 0)) := ⟨_, rfl⟩
  rw [← hW] at hm hta hbx hbw
  have sp := hta.spare 0 (by simp)
  have st := hta.set 0 (by simp) ⟨true, -1, a, b, c⟩
  obtain ⟨⟨u0, d0⟩, ⟨u1, d1⟩, ⟨u2, d2⟩, ⟨u3, d3⟩, ⟨u4, d4⟩, hf⟩ := sp
  simp only [Nat.zero_mul, Nat.zero_add] at d0 d1 d2 d3 d4 st
  obtain ⟨g, hg⟩ : ∃ g, g = W0.heap.size := ⟨_, rfl⟩
  rw [← hg] at hm d0 d1 d2 d3 d4 st hf hsz
  have f0 := hf 0
  have f1 := hf 1
  have f2 := hf 2
  have f3 := hf 3
  have f4 := hf 4
  have HT : Hid (OwnT g 5 [⟨true, -1, a, b, c⟩, noRe, noRe, noRe, noRe] [] w.heap.size (w5 W g 0 true (-1) a b c).heap.size (w5 W g 0 true (-1) a b c)) := by
    refine ⟨?_, by simp, hsz, lt_of_block st⟩
    unfold TreeIn
    rw [List.append_nil]
    exact st
  have HBW : Hid (Below w.heap.size w (w5 W g 0 true (-1) a b c)) := below_w5 hbw hsz _ _ _ _ _
  have k0 := hbx.c0
  have k1 := hbx.c1
  have k2 := hbx.c2
  clear hta hbx hbw hW st hf hg
  go_enter Try.func13, Try.ntmps13
  go_wp2_with fail
  refine (CA _).mono ?_
  rintro e w1 ⟨rfl, hw1⟩
  rw [← hW0] at hw1
  subst hw1
  clear CA hW0
  go_wp2
  go_returns
  exact ⟨g, 5, [], rfl, HT.out, HBW.out⟩
end Go.Proofs.Ytfgcokcmmcpajaa
