/-
  The law of promise 4 on categories: the walk.
-/
import Derived.Test.YtjceffhogoedaaaMathCats
import Derived.Test.YtjceffhogoedaaaDrawC4
import Derived.Test.YtjceffhogoedaaaBig
namespace Go.Proofs.Ytjceffhogoedaaa
open Go.RowKit
set_option linter.unusedVariables false

/-- The table, the one with a category more, the one with it dropped. -/
structure CatsW (w : World) (v0 : Value) (cs : List (Int × Bool)) (v1 : Value) (xs : List (Int × Bool)) (v2 : Value) (ys : List (Int × Bool)) (wr : World) : Prop where
  l : IsCats wr v0 cs
  x : IsCats wr v1 xs
  y : IsCats wr v2 ys
  below : Below w.heap.size w wr
theorem CatsW.on {w : World} {v0 v1 v2 : Value} {cs xs ys : List (Int × Bool)} {wr w' : World} (h : CatsW w v0 cs v1 xs v2 ys wr) (hb : Below wr.heap.size wr w') : CatsW w v0 cs v1 xs v2 ys w' :=
  ⟨h.l.on hb, h.x.on hb, h.y.on hb, h.below.trans (hb.mono h.below.size)⟩
/-- The answers with the lengths named. -/
theorem catNew_at (p : Addr) (cap n : Nat) (cs xs : List (Int × Bool)) (id : Int) (is : Bool) (w : World) (hx : IsCats w (.slice (some p) n cap) cs) (hn : cs.length = n) (h4 : n ≤ 4) (h1 : newCats cs = xs) (h2 : newId cs = id) (h3 : (newAt cs).isSome = is) :
    Calls Try.prog 10 #[.slice (some p) n cap] w fun e w' => ∃ q c, e = .returned (.tuple #[.slice (some q) n c, .int .i64 id, .bool is]) ∧ IsCats w' (.slice (some q) n c) xs ∧ Below w.heap.size w w' := by
  subst hn
  refine (implCatNew_any p cap cs w hx (by omega)).mono ?_
  rintro e w' ⟨g, c, rs, rfl, ho, hb⟩
  have hc := ho.cats
  rw [newCats_len, h1] at hc
  exact ⟨_, c, by rw [h2, h3], hc, hb⟩
theorem catDrop_at (p : Addr) (cap n : Nat) (cs ys : List (Int × Bool)) (id : Int) (is : Bool) (w : World) (hx : IsCats w (.slice (some p) n cap) cs) (hn : cs.length = n) (h4 : n ≤ 4) (hf : Fits64 id) (h1 : dropCats cs id = ys) (h3 : decide (0 ≤ catOf cs id) = is) :
    Calls Try.prog 11 #[.slice (some p) n cap, .int .i64 id] w fun e w' => ∃ q c, e = .returned (.tuple #[.slice (some q) n c, .bool is]) ∧ IsCats w' (.slice (some q) n c) ys ∧ Below w.heap.size w w' := by
  subst hn
  refine (implCatDrop_any p cap cs id w hx (by omega) hf).mono ?_
  rintro e w' ⟨g, c, rs, rfl, ho, hb⟩
  have hc := ho.cats
  rw [dropCats_len, h1] at hc
  exact ⟨_, c, by rw [h3], hc, hb⟩
theorem catOf_at (v : Value) (n : Nat) (cs : List (Int × Bool)) (id r : Int) (w : World) (hx : IsCats w v cs) (hn : cs.length = n) (h4 : n ≤ 4) (hf : Fits64 id) (h1 : catOf cs id = r) :
    Calls Try.prog 12 #[v, .int .i64 id] w fun e w' => e = .returned (.int .i64 r) ∧ Below w.heap.size w w' := by
  rw [← h1]
  exact implCatOf_any v cs id w hx (by omega) hf
theorem okCats_at (v : Value) (n : Nat) (cs : List (Int × Bool)) (w : World) (hx : IsCats w v cs) (hn : cs.length = n) (h4 : n ≤ 4) (h1 : catsOk cs = true) :
    Calls Try.prog 13 #[v] w fun e w' => e = .returned (.bool true) ∧ w = w' := by
  refine (specCatsOk_any v cs w hx (by omega)).mono ?_
  rintro e w' ⟨rfl, rfl⟩
  exact ⟨by rw [h1], rfl⟩

set_option maxRecDepth 100000 in
set_option maxHeartbeats 4000000 in
theorem lawCats_small (w : World) (a : Option Addr) (len cap : Nat) (cb : Nat → Nat) (hc : Code0 w a len cb) :
    Calls Try.prog 3 #[.slice a len cap] w fun e w' => e = .returned (.bool true) ∧ Below w.heap.size w w' := by
  have C0 := big_no w a len cap (by have := hc.small; omega)
  have C1 := drawCatNew_any w a len cap cb hc
  clear hc
  go_enter Try.func3, Try.ntmps3
  go_wp2_with fail
  refine C0.mono ?_
  rintro e w0 ⟨rfl, rfl⟩
  clear C0
  go_wp2_with fail
  refine C1.mono ?_
  rintro e w1 ⟨p, c, cs, rfl, h4, hcs, hb1⟩
  clear C1
  have HL : Hid (IsCats w1 (.slice (some p) cs.length c) cs) := hcs
  have HW1 : Hid (Below w.heap.size w w1) := hb1
  obtain ⟨n, hn⟩ : ∃ n, cs.length = n := ⟨_, rfl⟩
  rw [hn] at h4 HL ⊢
  have HN : Hid (cs.length = n ∧ n ≤ 4) := ⟨hn, h4⟩
  clear hcs hb1 hn h4
  obtain ⟨xs, hxs⟩ : ∃ xs, newCats cs = xs := ⟨_, rfl⟩
  obtain ⟨id, hid⟩ : ∃ i, newId cs = i := ⟨_, rfl⟩
  have HNX : Hid (xs.length = n) := by show xs.length = n; rw [← hxs, newCats_len]; exact HN.out.1
  have HF : Hid (Fits64 id) := by show Fits64 id; rw [← hid]; exact fits_id
  obtain ⟨ys, hys⟩ : ∃ ys, dropCats xs id = ys := ⟨_, rfl⟩
  have HNY : Hid (ys.length = n) := by show ys.length = n; rw [← hys, dropCats_len]; exact HNX.out
  cases hat : newAt cs with
  | none =>
    have hid0 : id = 0 := by rw [← hid]; exact newId_none hat
    have C2 := catNew_at p c n cs xs id false w1 HL.out HN.out.1 HN.out.2 hxs hid (by rw [hat]; rfl)
    obtain ⟨gone, hgone⟩ : ∃ b, decide (0 ≤ catOf xs id) = b := ⟨_, rfl⟩
    have HD : Hid (∀ q c w', IsCats w' (.slice (some q) n c) xs → _) := fun q c w' hx => catDrop_at q c n xs ys id gone w' hx HNX.out HN.out.2 HF.out hys hgone
    rw [hid0] at C2 HD
    clear hid0 hid hxs hys hgone hat
    go_wp2_with fail
    refine C2.mono ?_
    rintro e w2 ⟨q, c2, rfl, hx, hb2⟩
    have HX : Hid (IsCats w2 (.slice (some q) n c2) xs ∧ Below w.heap.size w w2) := ⟨hx, HW1.out.trans (hb2.mono HW1.out.size)⟩
    clear C2 hx hb2
    go_wp2_with fail
    refine (HD.out q c2 _ HX.out.1).mono ?_
    rintro e w3 ⟨q3, c3, rfl, hy, hb3⟩
    have HE : Hid (Below w.heap.size w w3) := HX.out.2.trans (hb3.mono HX.out.2.size)
    clear HD HX hy hb3
    go_wp2
    go_ret
    exact ⟨rfl, HE.out⟩
  | some k =>
    have CL := cats_law hat
    rw [hid, hxs, hys] at CL
    obtain ⟨f1, f2, f3, f4, f5, f6, f7, _, f9, f10, f11⟩ := CL
    obtain ⟨id2, hid2⟩ : ∃ i, newId ys = i := ⟨_, rfl⟩
    rw [hid2] at f11
    have C2 := catNew_at p c n cs xs id true w1 HL.out HN.out.1 HN.out.2 hxs hid (by rw [hat]; rfl)
    have HD : Hid (∀ q c w', IsCats w' (.slice (some q) n c) xs → _) := fun q c w' hx => catDrop_at q c n xs ys id true w' hx HNX.out HN.out.2 HF.out hys (by rw [f2]; exact decide_eq_true (by omega))
    have HO1 : Hid (∀ v w', IsCats w' v cs → _) := fun v w' hx => catOf_at v n cs id (-1) w' hx HN.out.1 HN.out.2 HF.out f1
    have HO2 : Hid (∀ v w', IsCats w' v xs → _) := fun v w' hx => catOf_at v n xs id k w' hx HNX.out HN.out.2 HF.out f2
    have HO3 : Hid (∀ v w', IsCats w' v ys → _) := fun v w' hx => catOf_at v n ys id (-1) w' hx HNY.out HN.out.2 HF.out f10
    have HK1 : Hid (∀ v w', IsCats w' v xs → _) := fun v w' hx => okCats_at v n xs w' hx HNX.out HN.out.2 f7
    have HK2 : Hid (∀ v w', IsCats w' v ys → _) := fun v w' hx => okCats_at v n ys w' hx HNY.out HN.out.2 f9
    obtain ⟨is2, his2⟩ : ∃ b, (newAt ys).isSome = b := ⟨_, rfl⟩
    have HN2 : Hid (∀ q c w', IsCats w' (.slice (some q) n c) ys → _) := fun q c w' hx => catNew_at q c n ys _ id2 is2 w' hx HNY.out HN.out.2 rfl hid2 his2
    have HD2 : Hid (∀ q c w', IsCats w' (.slice (some q) n c) ys → _) := fun q c w' hx => catDrop_at q c n ys _ id false w' hx HNY.out HN.out.2 HF.out rfl (by rw [f10]; rfl)
    have ht : id.tmod 4 = (k : Int) := by rw [Int.tmod_eq_emod_of_nonneg (by omega)]; exact f4
    have hne : (id2 == id) = false := by simpa using f11
    have hne2 : ¬ id2 = id := f11
    have hne3 : (id2 != id) = true := by simpa using f11
    clear hid hxs hys hat f1 f2 f5 f6 f7 f9 f10 f11 hid2 his2 f3 f4
    go_wp2_with fail
    refine C2.mono ?_
    rintro e w2 ⟨q, c2, rfl, hx, hb2⟩
    have HX : Hid (IsCats w2 (.slice (some q) n c2) xs ∧ IsCats w2 (.slice (some p) n c) cs ∧ Below w.heap.size w w2) := ⟨hx, HL.out.on hb2, HW1.out.trans (hb2.mono HW1.out.size)⟩
    clear C2 hx hb2 HL HW1
    go_wp2_with fail
    refine (HD.out q c2 _ HX.out.1).mono ?_
    rintro e w3 ⟨q3, c3, rfl, hy, hb3⟩
    have HE : Hid (CatsW w (.slice (some p) n c) cs (.slice (some q) n c2) xs (.slice (some q3) n c3) ys w3) := ⟨HX.out.2.1.on hb3, HX.out.1.on hb3, hy, HX.out.2.2.trans (hb3.mono HX.out.2.2.size)⟩
    clear HD HX hy hb3
    go_wp2_with fail
    refine (HO1.out _ _ HE.out.l).mono ?_
    rintro e w4 ⟨rfl, hb4⟩
    have HE4 : Hid (CatsW w (.slice (some p) n c) cs (.slice (some q) n c2) xs (.slice (some q3) n c3) ys w4) := HE.out.on hb4
    clear HE hb4 HO1
    go_wp2_with fail
    refine (HO2.out _ _ HE4.out.x).mono ?_
    rintro e w5 ⟨rfl, hb4⟩
    have HE5 : Hid (CatsW w (.slice (some p) n c) cs (.slice (some q) n c2) xs (.slice (some q3) n c3) ys w5) := HE4.out.on hb4
    clear HE4 hb4 HO2
    go_wp2_with fail
    refine (HO3.out _ _ HE5.out.y).mono ?_
    rintro e w6 ⟨rfl, hb4⟩
    have HE6 : Hid (CatsW w (.slice (some p) n c) cs (.slice (some q) n c2) xs (.slice (some q3) n c3) ys w6) := HE5.out.on hb4
    clear HE5 hb4 HO3
    go_wp2_with fail
    refine (HK1.out _ _ HE6.out.x).mono ?_
    rintro e w7 ⟨rfl, rfl⟩
    clear HK1
    go_wp2_with fail
    refine (HK2.out _ _ HE6.out.y).mono ?_
    rintro e w7 ⟨rfl, rfl⟩
    clear HK2
    go_wp2_with fail
    refine (HN2.out _ _ _ HE6.out.y).mono ?_
    rintro e w7 ⟨q7, c7, rfl, _, hb4⟩
    have HE7 : Hid (CatsW w (.slice (some p) n c) cs (.slice (some q) n c2) xs (.slice (some q3) n c3) ys w7) := HE6.out.on hb4
    clear HE6 hb4 HN2
    go_wp2_with fail
    refine (HD2.out _ _ _ HE7.out.y).mono ?_
    rintro e w8 ⟨q8, c8, rfl, _, hb4⟩
    have HE8 : Hid (Below w.heap.size w w8) := (HE7.out.on hb4).below
    clear HE7 hb4 HD2
    go_wp2
    go_ret
    exact ⟨rfl, HE8.out⟩
end Go.Proofs.Ytjceffhogoedaaa
