/-
  Promise 6's law at every code that is not too long: it answers true.
-/
import Derived.Test.YtikaibfahanpnaaDoorFive
import Derived.Laws.StructEq
namespace Go.Proofs.YtikaibfahanpnaaDoor
open Go.RowKit
set_option linter.unusedVariables false
set_option maxRecDepth 100000

/-- What stands above a place, at a block's head where there is any. -/
def UpsAt (w : World) (au : Option Addr) (ups : List Int) : Prop := ∀ g, au = some ⟨g, 0, none⟩ → ∃ rest, RowIn w g ups rest
theorem UpsAt.drew {w : World} {au : Option Addr} {ups : List Int} (h : UpsAt w au ups) : UpsAt w.drew au ups := h
theorem upsAt_own {w : World} {base : Nat} {v : Value} {xs : List Int} (h : w.ownsRow base 3 1 v xs.length (icells xs)) : ∃ au cu, v = .slice au xs.length cu ∧ (0 < xs.length → ∃ g, au = some ⟨g, 0, none⟩) ∧ UpsAt w au xs := by
  by_cases h0 : 0 < xs.length
  · obtain ⟨g, cap, rest, rfl, _, _, _, _, hr⟩ := rowIn_own h h0
    exact ⟨_, _, rfl, fun _ => ⟨g, rfl⟩, fun g' e => by cases e; exact ⟨rest, hr⟩⟩
  · obtain ⟨a, c, rfl⟩ := owns_len h
    refine ⟨a, c, rfl, fun h => absurd h h0, fun g e => ?_⟩
    subst e
    rcases h.2 with ⟨e, _⟩ | ⟨g', cap, cur, e, hb, hg, hcap, hm, hs, htake⟩
    · cases e
    · obtain rfl : g = g' := by simp at e; exact e.1
      have hx : xs = [] := by cases xs with
        | nil => rfl
        | cons => simp at h0
      subst hx
      exact ⟨cur.toList, by unfold RowIn; simp [icells]; exact hg⟩
theorem above_len (ts : List Re) (j : Nat) : (aboveOf ts (j : Int)).length ≤ 5 := by
  unfold aboveOf
  split
  · rw [Int.toNat_natCast]; exact aboveN_length ts 5 j
  · simp
set_option maxRecDepth 100000 in
set_option maxHeartbeats 16000000 in
theorem lawTree_small (w : World) (ad : Option Addr) (len cap : Nat) (cb : Nat → Nat) (hc : Code0 w ad len cb) (hse : Sent w) :
    Calls Tryd.prog 3 #[.slice ad len cap] w fun e w' => e = .returned (.bool true) ∧ Below w.heap.size w w' := by
  have C0 := big_no w ad len cap (by have := hc.small; omega)
  have C1 := drawTreeSplit_any w ad len cap cb hc
  have HC : Hid (Code0 w ad len cb) := hc
  have HSE : Hid (Sent w) := hse
  clear hc hse
  go_enter Tryd.func3, Tryd.ntmps3
  go_wp2_with fail
  refine C0.mono ?_
  rintro r0 w0 ⟨rfl, rfl⟩
  clear C0
  go_wp2_with fail
  refine C1.mono ?_
  rintro r0 w1 ⟨gt, ct, ts, rs, i, a, b, c, rfl, hl, ho, hb1⟩
  clear C1
  obtain ⟨n, hn⟩ : ∃ n, n = ts.length := ⟨_, rfl⟩
  have ht := ho.tree
  rw [← hn] at hl ht ⊢
  have HB1 : Hid (Below w.heap.size w (w1.alloc (boxA a b c))) := below_more hb1 (below_alloc w1 _)
  have HT1 : Hid (IsTree (w1.alloc (boxA a b c)) (.slice (some ⟨gt, 0, none⟩) n ct) ts) := ht.on (below_alloc w1 _)
  have HX1 : Hid (Box3 (w1.alloc (boxA a b c)) w1.heap.size 26 a b c) := ⟨heap_alloc_new w1 _⟩
  have HNL : Hid (n ≤ 5) := hl
  have HNE : Hid (n = ts.length) := hn
  clear ho ht hb1 hl hn
  go_wp2_with fail
  obtain ⟨v1, hv1⟩ : ∃ v, v = w1.alloc (boxA a b c) := ⟨_, rfl⟩
  obtain ⟨gb, hgb⟩ : ∃ g, g = w1.heap.size := ⟨_, rfl⟩
  rw [← hv1] at HB1 HT1 HX1 ⊢
  rw [← hgb] at HX1 ⊢
  clear hv1 hgb
  have C2 := specOk_any _ ts v1 HT1.out (by have := HNL.out; have := HNE.out; omega)
  cases hok : treeOk ts with
  | false =>
    rw [hok] at C2
    have HNO : Hid (treeOk ts = false) := hok
    refine C2.mono ?_
    rintro e w2 ⟨rfl, hb⟩
    have HB2 := hid_of (below_more HB1.out hb)
    have HT2 := hid_of (HT1.out.on hb)
    have k0 := (box_on HX1.out hb).c0
    have k1 := (box_on HX1.out hb).c1
    have k2 := (box_on HX1.out hb).c2
    clear C2 hb HB1 HT1 HX1 hok
    go_wp2_with fail
    refine (splitN gt ct n ts i a b c _ HT2.out HNL.out (HSE.out.on HB2.out) HNO.out).mono ?_
    rintro e w3 ⟨v, k, rfl, hb⟩
    have C3 := implTreeSum_any _ ts w3 (HT2.out.on hb) (by have := HNL.out; have := HNE.out; omega)
    rw [sumT_no HNO.out, sumT_no HNO.out, sumT_no HNO.out] at C3
    have HB3 := hid_of (below_more HB2.out hb)
    clear k0 k1 k2 HB2 HT2 hb
    go_wp2_with fail
    refine C3.mono ?_
    rintro e w4 ⟨rfl, hb⟩
    have HB4 := hid_of (below_more HB3.out hb)
    clear C3 HB3 hb
    go_wp2
    go_ret
    exact ⟨rfl, HB4.out⟩
  | true =>
    rw [hok] at C2
    have HOK : Hid (treeOk ts = true) := hok
    obtain rfl : n = 5 := by have := HNE.out; rw [this]; exact treeOk_five hok
    clear HNE HNL hok
    refine C2.mono ?_
    rintro e w2 ⟨rfl, hb⟩
    have HL0 : Hid (Law0 w gt ct ts gb a b c ad len cb w2) := ⟨HT1.out.on hb, box_on HX1.out hb, below_more HB1.out hb, HSE.out.on (below_more HB1.out hb), HC.out.on (below_more HB1.out hb)⟩
    clear C2 hb HB1 HT1 HX1 HC HSE
    obtain ⟨A, B, C, HABC⟩ : ∃ A B C, Hid (sumT Re.a ts = A ∧ sumT Re.b ts = B ∧ sumT Re.c ts = C) := ⟨_, _, _, rfl, rfl, rfl⟩
    have C3 := specTreeSum_any _ ts w2 HL0.out.t (by have := isTree_len HL0.out.t; omega)
    rw [HABC.out.1, HABC.out.2.1, HABC.out.2.2] at C3
    go_wp2_with fail
    refine C3.mono ?_
    rintro e w3 ⟨rfl, hb⟩
    have HL1 : Hid (Law1 w gt ct ts gb a b c ad len cb w3.heap.size A B C (w3.alloc (boxA A B C))) := ⟨(HL0.out.on hb).on (below_alloc w3 _), ⟨heap_alloc_new w3 _⟩⟩
    clear C3 hb HL0
    have k0 := HL1.out.o.box.c0
    have k1 := HL1.out.o.box.c1
    have k2 := HL1.out.o.box.c2
    go_wp2_with fail
    obtain ⟨v3, hv3⟩ : ∃ v, v = w3.alloc (boxA A B C) := ⟨_, rfl⟩
    obtain ⟨gs, hgs⟩ : ∃ g, g = w3.heap.size := ⟨_, rfl⟩
    rw [← hv3] at HL1 ⊢
    rw [← hgs] at HL1 ⊢
    clear hv3 hgs k0 k1 k2
    have C4 := split5 gt ct ts i a b c v3 HL1.out.o.t HL1.out.o.sent
    have HSX : Hid (SameSum ts (splitOf ts i a b c)) := split_sum HOK.out
    have h := split_told (i := i) (a := a) (b := b) (c := c) HOK.out
    obtain ⟨xs, hxs⟩ : ∃ x, x = splitOf ts i a b c := ⟨_, rfl⟩
    obtain ⟨k, hk⟩ : ∃ x, x = splitK ts i a b c := ⟨_, rfl⟩
    obtain ⟨o, ho⟩ : ∃ x, x = splitOk ts i a b c := ⟨_, rfl⟩
    rw [← hxs, ← hk, ← ho] at h
    rw [← hxs, ← hk, ← ho] at C4
    rw [← hxs] at HSX
    clear hxs hk ho
    obtain ⟨F, HSP⟩ : ∃ F : Nat, Hid ((o = true ∧ k = (F : Int) ∧ 0 < F ∧ F < 5 ∧ reAt xs F = ⟨true, i, a, b, c⟩ ∧ (reAt ts F).live = false ∧ dropOk xs k = true ∧ dropOf xs k = ts) ∨ (o = false ∧ xs = ts)) := by
      rcases h with ⟨h1, F, h2⟩ | h
      · exact ⟨F, .inl ⟨h1, h2⟩⟩
      · exact ⟨0, .inr h⟩
    clear h
    refine C4.mono ?_
    rintro e w4 ⟨gx, cx, rfl, hx, hb⟩
    clear C4
    have HX : Hid (IsTree w4 (.slice (some ⟨gx, 0, none⟩) 5 cx) xs) := hx
    have HL2 := hid_of (HL1.out.on hb)
    clear HL1 hx hb
    have HL1 := HL2
    clear HL2
    go_wp2_with fail
    obtain ⟨l, HL⟩ : ∃ l, Hid ((l = [.bool true, .bool true, .int .i64 (F : Int), .bool false, .bool false, .int .i64 (F : Int), .bool false, .bool false, .bool false, .slice (some ⟨gx, 0, none⟩) 5 cx, .int .i64 (F : Int), .pointer (some ⟨gx, F * 5, none⟩), .pointer (some ⟨gx, F * 5 + 1, none⟩), .int .i64 i, .int .i64 i, .bool false, .bool false, .bool false, .slice (some ⟨gx, 0, none⟩) 5 cx, .int .i64 (F : Int), .pointer (some ⟨gx, F * 5, none⟩), .pointer (some ⟨gx, F * 5 + 2, none⟩), amt a b c, amt a b c, .bool false, .bool false, .bool false, .slice (some ⟨gt, 0, none⟩) 5 ct, .int .i64 (F : Int), .pointer (some ⟨gt, F * 5, none⟩), .pointer (some ⟨gt, F * 5, none⟩), .bool false, .bool false, .bool false, .bool false, .bool true, .bool false, .bool false, undef, undef, undef, undef, .bool false, .bool false, .bool false, .slice (some ⟨gx, 0, none⟩) 5 cx, .bool true, .bool false, .bool false, .bool false, .slice (some ⟨gx, 0, none⟩) 5 cx, amt A B C, amt A B C, .bool false, .bool false] ∧ o = true ∧ k = (F : Int) ∧ Hid (0 < F ∧ F < 5 ∧ reAt xs F = ⟨true, i, a, b, c⟩ ∧ (reAt ts F).live = false)) ∨ (l = [.bool false, .bool false, undef, undef, undef, undef, undef, undef, undef, undef, undef, undef, undef, undef, undef, undef, undef, undef, undef, undef, undef, undef, undef, undef, undef, undef, undef, undef, undef, undef, undef, undef, undef, .bool false, .bool false, .bool false, .bool true, .bool true, .slice (some ⟨gx, 0, none⟩) 5 cx, .slice (some ⟨gt, 0, none⟩) 5 ct, .bool true, .bool false, .bool false, .bool false, .bool false, .slice (some ⟨gx, 0, none⟩) 5 cx, .bool true, .bool false, .bool false, .bool false, .slice (some ⟨gx, 0, none⟩) 5 cx, amt A B C, amt A B C, .bool false, .bool false] ∧ o = false ∧ Hid (xs = ts))) := by
      rcases HSP.out with ⟨h1, h2, h3, h4, h5, h6, _, _⟩ | ⟨h1, h2⟩
      · exact ⟨_, .inl ⟨rfl, h1, h2, h3, h4, h5, h6⟩⟩
      · exact ⟨_, .inr ⟨rfl, h1, h2⟩⟩
    refine wp_region_whole (by kernel_rfl) (by kernel_rfl) (by kernel_rfl) (by kernel_rfl) (Flat (fun wz => Law1 w gt ct ts gb a b c ad len cb gs A B C wz ∧ IsTree wz (.slice (some ⟨gx, 0, none⟩) 5 cx) xs) (gVals l)) (flat_start ⟨HL1.out.on (below_draw _), HX.out.on (below_draw _)⟩) ?_ ?_
    · refine ⟨?_, ?_, ?_, ?_, ?_, ?_, ?_, ?_, ?_, ?_, ?_, ?_, ?_, ?_, ?_, ?_, ?_, ?_, ?_, ?_, ?_, ?_, ?_, ?_, ?_, ?_, ?_, ?_, ?_, ?_, ?_, ?_, ?_, ?_, ?_, ?_, ?_, ?_, ?_, ?_, ?_, ?_, ?_, ?_, ?_, ?_, ?_, ?_, ?_, ?_, ?_, ?_, ?_, ?_, ?_, trivial⟩
      · intro b0 us wz L hslot hoth hLi hR hcl hdo K hK
        rcases HL.out with ⟨rfl, rfl, rfl, hf⟩ | ⟨rfl, rfl, hf⟩
        · have s12 : b0.tmps.getD 12 undef = .bool true := hoth 12 (by rfl)
          clear hslot hoth hdo hcl hLi
          refine guard_none (by rfl) ?_
          go_simp
          exact hK _ _ (flat_mark (hR.1) (fun _ _ h => h) hR.2 rfl)
        · have s12 : b0.tmps.getD 12 undef = .bool false := hoth 12 (by rfl)
          clear hslot hoth hdo hcl hLi
          refine guard_none (by rfl) ?_
          go_simp
          exact hK _ _ (flat_mark (hR.1) (fun _ _ h => h) hR.2 rfl)
      · intro b0 us wz L hslot hoth hLi hR hcl hdo K hK
        rcases HL.out with ⟨rfl, rfl, rfl, hf⟩ | ⟨rfl, rfl, hf⟩
        · have s65 : b0.tmps.getD 65 undef = .bool true := (hslot 0 65 (by rfl)).trans (hR.2 0 (done_at hdo 0 (by rfl)))
          clear hslot hoth hdo hcl hLi
          refine guard_none (by rfl) ?_
          go_simp
          exact hK _ _ (flat_mark (hR.1) (fun _ _ h => h) hR.2 rfl)
        · have s65 : b0.tmps.getD 65 undef = .bool false := (hslot 0 65 (by rfl)).trans (hR.2 0 (done_at hdo 0 (by rfl)))
          clear hslot hoth hdo hcl hLi
          refine guard_none (by rfl) ?_
          go_simp
          exact hK _ _ (flat_mark (hR.1) (fun _ _ h => h) hR.2 rfl)
      · intro b0 us wz L hslot hoth hLi hR hcl hdo K hK
        rcases HL.out with ⟨rfl, rfl, rfl, hf⟩ | ⟨rfl, rfl, hf⟩
        · have gg : us 1 = .bool true := hR.2 1 (done_at hdo 1 (by rfl))
          have s11 : b0.tmps.getD 11 undef = .int .i64 (F : Int) := hoth 11 (by rfl)
          clear hslot hoth hdo hcl hLi
          refine guard_on (j := 1) (want := true) (d := 66) (by rfl) (by rfl) gg ?_
          go_simp
          exact hK _ _ (flat_mark (hR.1) (fun _ _ h => h) hR.2 rfl)
        · have gg : us 1 = .bool false := hR.2 1 (done_at hdo 1 (by rfl))
          refine guard_off (j := 1) (want := true) (d := 66) (by rfl) (by rfl) gg (by rfl) ?_
          exact hK undef _ (flat_mark (hR.1) (fun _ _ h => h) hR.2 rfl)
      · intro b0 us wz L hslot hoth hLi hR hcl hdo K hK
        rcases HL.out with ⟨rfl, rfl, rfl, hf⟩ | ⟨rfl, rfl, hf⟩
        · have gg : us 1 = .bool true := hR.2 1 (done_at hdo 1 (by rfl))
          have s67 : b0.tmps.getD 67 undef = .int .i64 (F : Int) := (hslot 2 67 (by rfl)).trans (hR.2 2 (done_at hdo 2 (by rfl)))
          have hF0 : ¬ ((F : Int) < 1) := by have := hf.out; omega
          have hF5 : (F : Int) < 5 := by have := hf.out; omega
          have hF5' : ¬ (5 ≤ (F : Int)) := by omega
          clear hslot hoth hdo hcl hLi
          refine guard_on (j := 1) (want := true) (d := 66) (by rfl) (by rfl) gg ?_
          go_simp
          exact hK _ _ (flat_mark (hR.1) (fun _ _ h => h) hR.2 rfl)
        · have gg : us 1 = .bool false := hR.2 1 (done_at hdo 1 (by rfl))
          refine guard_off (j := 1) (want := true) (d := 66) (by rfl) (by rfl) gg (by rfl) ?_
          exact hK undef _ (flat_mark (hR.1) (fun _ _ h => h) hR.2 rfl)
      · intro b0 us wz L hslot hoth hLi hR hcl hdo K hK
        rcases HL.out with ⟨rfl, rfl, rfl, hf⟩ | ⟨rfl, rfl, hf⟩
        · have gg : us 1 = .bool true := hR.2 1 (done_at hdo 1 (by rfl))
          have s68 : b0.tmps.getD 68 undef = .bool false := (hslot 3 68 (by rfl)).trans (hR.2 3 (done_at hdo 3 (by rfl)))
          clear hslot hoth hdo hcl hLi
          refine guard_on (j := 1) (want := true) (d := 66) (by rfl) (by rfl) gg ?_
          go_simp
          exact hK _ _ (flat_mark (hR.1) (fun _ _ h => h) hR.2 rfl)
        · have gg : us 1 = .bool false := hR.2 1 (done_at hdo 1 (by rfl))
          refine guard_off (j := 1) (want := true) (d := 66) (by rfl) (by rfl) gg (by rfl) ?_
          exact hK undef _ (flat_mark (hR.1) (fun _ _ h => h) hR.2 rfl)
      · intro b0 us wz L hslot hoth hLi hR hcl hdo K hK
        rcases HL.out with ⟨rfl, rfl, rfl, hf⟩ | ⟨rfl, rfl, hf⟩
        · have gg : us 4 = .bool false := hR.2 4 (done_at hdo 4 (by rfl))
          have s11 : b0.tmps.getD 11 undef = .int .i64 (F : Int) := hoth 11 (by rfl)
          clear hslot hoth hdo hcl hLi
          refine guard_on (j := 4) (want := false) (d := 69) (by rfl) (by rfl) gg ?_
          go_simp
          exact hK _ _ (flat_mark (hR.1) (fun _ _ h => h) hR.2 rfl)
        · have gg : us 4 = undef := hR.2 4 (done_at hdo 4 (by rfl))
          refine guard_und (j := 4) (want := false) (d := 69) (by rfl) (by rfl) gg ?_
          exact hK undef _ (flat_mark (hR.1) (fun _ _ h => h) hR.2 rfl)
      · intro b0 us wz L hslot hoth hLi hR hcl hdo K hK
        rcases HL.out with ⟨rfl, rfl, rfl, hf⟩ | ⟨rfl, rfl, hf⟩
        · have gg : us 4 = .bool false := hR.2 4 (done_at hdo 4 (by rfl))
          have s70 : b0.tmps.getD 70 undef = .int .i64 (F : Int) := (hslot 5 70 (by rfl)).trans (hR.2 5 (done_at hdo 5 (by rfl)))
          have hF0 : ¬ ((F : Int) < 1) := by have := hf.out; omega
          have hF5 : (F : Int) < 5 := by have := hf.out; omega
          have hF5' : ¬ (5 ≤ (F : Int)) := by omega
          clear hslot hoth hdo hcl hLi
          refine guard_on (j := 4) (want := false) (d := 69) (by rfl) (by rfl) gg ?_
          go_simp
          exact hK _ _ (flat_mark (hR.1) (fun _ _ h => h) hR.2 rfl)
        · have gg : us 4 = undef := hR.2 4 (done_at hdo 4 (by rfl))
          refine guard_und (j := 4) (want := false) (d := 69) (by rfl) (by rfl) gg ?_
          exact hK undef _ (flat_mark (hR.1) (fun _ _ h => h) hR.2 rfl)
      · intro b0 us wz L hslot hoth hLi hR hcl hdo K hK
        rcases HL.out with ⟨rfl, rfl, rfl, hf⟩ | ⟨rfl, rfl, hf⟩
        · have gg : us 1 = .bool true := hR.2 1 (done_at hdo 1 (by rfl))
          have s69 : b0.tmps.getD 69 undef = .bool false := (hslot 4 69 (by rfl)).trans (hR.2 4 (done_at hdo 4 (by rfl)))
          have s71 : b0.tmps.getD 71 undef = .bool false := (hslot 6 71 (by rfl)).trans (hR.2 6 (done_at hdo 6 (by rfl)))
          clear hslot hoth hdo hcl hLi
          refine guard_on (j := 1) (want := true) (d := 66) (by rfl) (by rfl) gg ?_
          go_simp
          exact hK _ _ (flat_mark (hR.1) (fun _ _ h => h) hR.2 rfl)
        · have gg : us 1 = .bool false := hR.2 1 (done_at hdo 1 (by rfl))
          refine guard_off (j := 1) (want := true) (d := 66) (by rfl) (by rfl) gg (by rfl) ?_
          exact hK undef _ (flat_mark (hR.1) (fun _ _ h => h) hR.2 rfl)
      · intro b0 us wz L hslot hoth hLi hR hcl hdo K hK
        rcases HL.out with ⟨rfl, rfl, rfl, hf⟩ | ⟨rfl, rfl, hf⟩
        · have gg : us 1 = .bool true := hR.2 1 (done_at hdo 1 (by rfl))
          have s72 : b0.tmps.getD 72 undef = .bool false := (hslot 7 72 (by rfl)).trans (hR.2 7 (done_at hdo 7 (by rfl)))
          clear hslot hoth hdo hcl hLi
          refine guard_on (j := 1) (want := true) (d := 66) (by rfl) (by rfl) gg ?_
          go_simp
          exact hK _ _ (flat_mark (hR.1) (fun _ _ h => h) hR.2 rfl)
        · have gg : us 1 = .bool false := hR.2 1 (done_at hdo 1 (by rfl))
          refine guard_off (j := 1) (want := true) (d := 66) (by rfl) (by rfl) gg (by rfl) ?_
          exact hK undef _ (flat_mark (hR.1) (fun _ _ h => h) hR.2 rfl)
      · intro b0 us wz L hslot hoth hLi hR hcl hdo K hK
        rcases HL.out with ⟨rfl, rfl, rfl, hf⟩ | ⟨rfl, rfl, hf⟩
        · have gg : us 8 = .bool false := hR.2 8 (done_at hdo 8 (by rfl))
          have s10 : b0.tmps.getD 10 undef = .slice (some ⟨gx, 0, none⟩) 5 cx := hoth 10 (by rfl)
          clear hslot hoth hdo hcl hLi
          refine guard_on (j := 8) (want := false) (d := 73) (by rfl) (by rfl) gg ?_
          go_simp
          exact hK _ _ (flat_mark (hR.1) (fun _ _ h => h) hR.2 rfl)
        · have gg : us 8 = undef := hR.2 8 (done_at hdo 8 (by rfl))
          refine guard_und (j := 8) (want := false) (d := 73) (by rfl) (by rfl) gg ?_
          exact hK undef _ (flat_mark (hR.1) (fun _ _ h => h) hR.2 rfl)
      · intro b0 us wz L hslot hoth hLi hR hcl hdo K hK
        rcases HL.out with ⟨rfl, rfl, rfl, hf⟩ | ⟨rfl, rfl, hf⟩
        · have gg : us 8 = .bool false := hR.2 8 (done_at hdo 8 (by rfl))
          have s11 : b0.tmps.getD 11 undef = .int .i64 (F : Int) := hoth 11 (by rfl)
          clear hslot hoth hdo hcl hLi
          refine guard_on (j := 8) (want := false) (d := 73) (by rfl) (by rfl) gg ?_
          go_simp
          exact hK _ _ (flat_mark (hR.1) (fun _ _ h => h) hR.2 rfl)
        · have gg : us 8 = undef := hR.2 8 (done_at hdo 8 (by rfl))
          refine guard_und (j := 8) (want := false) (d := 73) (by rfl) (by rfl) gg ?_
          exact hK undef _ (flat_mark (hR.1) (fun _ _ h => h) hR.2 rfl)
      · intro b0 us wz L hslot hoth hLi hR hcl hdo K hK
        rcases HL.out with ⟨rfl, rfl, rfl, hf⟩ | ⟨rfl, rfl, hf⟩
        · have gg : us 8 = .bool false := hR.2 8 (done_at hdo 8 (by rfl))
          have s74 : b0.tmps.getD 74 undef = .slice (some ⟨gx, 0, none⟩) 5 cx := (hslot 9 74 (by rfl)).trans (hR.2 9 (done_at hdo 9 (by rfl)))
          have s75 : b0.tmps.getD 75 undef = .int .i64 (F : Int) := (hslot 10 75 (by rfl)).trans (hR.2 10 (done_at hdo 10 (by rfl)))
          have hF0 : ¬ ((F : Int) < 1) := by have := hf.out; omega
          have hF5 : (F : Int) < 5 := by have := hf.out; omega
          have hF5' : ¬ (5 ≤ (F : Int)) := by omega
          clear hslot hoth hdo hcl hLi
          refine guard_on (j := 8) (want := false) (d := 73) (by rfl) (by rfl) gg ?_
          go_simp
          exact hK _ _ (flat_mark (hR.1) (fun _ _ h => h) hR.2 rfl)
        · have gg : us 8 = undef := hR.2 8 (done_at hdo 8 (by rfl))
          refine guard_und (j := 8) (want := false) (d := 73) (by rfl) (by rfl) gg ?_
          exact hK undef _ (flat_mark (hR.1) (fun _ _ h => h) hR.2 rfl)
      · intro b0 us wz L hslot hoth hLi hR hcl hdo K hK
        rcases HL.out with ⟨rfl, rfl, rfl, hf⟩ | ⟨rfl, rfl, hf⟩
        · have gg : us 8 = .bool false := hR.2 8 (done_at hdo 8 (by rfl))
          have s76 : b0.tmps.getD 76 undef = .pointer (some ⟨gx, F * 5, none⟩) := (hslot 11 76 (by rfl)).trans (hR.2 11 (done_at hdo 11 (by rfl)))
          clear hslot hoth hdo hcl hLi
          refine guard_on (j := 8) (want := false) (d := 73) (by rfl) (by rfl) gg ?_
          go_simp
          exact hK _ _ (flat_mark (hR.1) (fun _ _ h => h) hR.2 rfl)
        · have gg : us 8 = undef := hR.2 8 (done_at hdo 8 (by rfl))
          refine guard_und (j := 8) (want := false) (d := 73) (by rfl) (by rfl) gg ?_
          exact hK undef _ (flat_mark (hR.1) (fun _ _ h => h) hR.2 rfl)
      · intro b0 us wz L hslot hoth hLi hR hcl hdo K hK
        rcases HL.out with ⟨rfl, rfl, rfl, hf⟩ | ⟨rfl, rfl, hf⟩
        · have gg : us 8 = .bool false := hR.2 8 (done_at hdo 8 (by rfl))
          have s77 : b0.tmps.getD 77 undef = .pointer (some ⟨gx, F * 5 + 1, none⟩) := (hslot 12 77 (by rfl)).trans (hR.2 12 (done_at hdo 12 (by rfl)))
          have cc := isTree_cell hR.1.2 hf.out.2.1
          rw [hf.out.2.2.1] at cc
          have k1 := cc.c1
          simp only at k1
          clear cc
          clear hslot hoth hdo hcl hLi
          refine guard_on (j := 8) (want := false) (d := 73) (by rfl) (by rfl) gg ?_
          go_simp
          exact hK _ _ (flat_mark (hR.1) (fun _ _ h => h) hR.2 rfl)
        · have gg : us 8 = undef := hR.2 8 (done_at hdo 8 (by rfl))
          refine guard_und (j := 8) (want := false) (d := 73) (by rfl) (by rfl) gg ?_
          exact hK undef _ (flat_mark (hR.1) (fun _ _ h => h) hR.2 rfl)
      · intro b0 us wz L hslot hoth hLi hR hcl hdo K hK
        rcases HL.out with ⟨rfl, rfl, rfl, hf⟩ | ⟨rfl, rfl, hf⟩
        · have gg : us 8 = .bool false := hR.2 8 (done_at hdo 8 (by rfl))
          have s4 : b0.tmps.getD 4 undef = .int .i64 i := hoth 4 (by rfl)
          clear hslot hoth hdo hcl hLi
          refine guard_on (j := 8) (want := false) (d := 73) (by rfl) (by rfl) gg ?_
          go_simp
          exact hK _ _ (flat_mark (hR.1) (fun _ _ h => h) hR.2 rfl)
        · have gg : us 8 = undef := hR.2 8 (done_at hdo 8 (by rfl))
          refine guard_und (j := 8) (want := false) (d := 73) (by rfl) (by rfl) gg ?_
          exact hK undef _ (flat_mark (hR.1) (fun _ _ h => h) hR.2 rfl)
      · intro b0 us wz L hslot hoth hLi hR hcl hdo K hK
        rcases HL.out with ⟨rfl, rfl, rfl, hf⟩ | ⟨rfl, rfl, hf⟩
        · have gg : us 8 = .bool false := hR.2 8 (done_at hdo 8 (by rfl))
          have s78 : b0.tmps.getD 78 undef = .int .i64 i := (hslot 13 78 (by rfl)).trans (hR.2 13 (done_at hdo 13 (by rfl)))
          have s79 : b0.tmps.getD 79 undef = .int .i64 i := (hslot 14 79 (by rfl)).trans (hR.2 14 (done_at hdo 14 (by rfl)))
          clear hslot hoth hdo hcl hLi
          refine guard_on (j := 8) (want := false) (d := 73) (by rfl) (by rfl) gg ?_
          go_simp
          exact hK _ _ (flat_mark (hR.1) (fun _ _ h => h) hR.2 rfl)
        · have gg : us 8 = undef := hR.2 8 (done_at hdo 8 (by rfl))
          refine guard_und (j := 8) (want := false) (d := 73) (by rfl) (by rfl) gg ?_
          exact hK undef _ (flat_mark (hR.1) (fun _ _ h => h) hR.2 rfl)
      · intro b0 us wz L hslot hoth hLi hR hcl hdo K hK
        rcases HL.out with ⟨rfl, rfl, rfl, hf⟩ | ⟨rfl, rfl, hf⟩
        · have gg : us 1 = .bool true := hR.2 1 (done_at hdo 1 (by rfl))
          have s73 : b0.tmps.getD 73 undef = .bool false := (hslot 8 73 (by rfl)).trans (hR.2 8 (done_at hdo 8 (by rfl)))
          have s80 : b0.tmps.getD 80 undef = .bool false := (hslot 15 80 (by rfl)).trans (hR.2 15 (done_at hdo 15 (by rfl)))
          clear hslot hoth hdo hcl hLi
          refine guard_on (j := 1) (want := true) (d := 66) (by rfl) (by rfl) gg ?_
          go_simp
          exact hK _ _ (flat_mark (hR.1) (fun _ _ h => h) hR.2 rfl)
        · have gg : us 1 = .bool false := hR.2 1 (done_at hdo 1 (by rfl))
          refine guard_off (j := 1) (want := true) (d := 66) (by rfl) (by rfl) gg (by rfl) ?_
          exact hK undef _ (flat_mark (hR.1) (fun _ _ h => h) hR.2 rfl)
      · intro b0 us wz L hslot hoth hLi hR hcl hdo K hK
        rcases HL.out with ⟨rfl, rfl, rfl, hf⟩ | ⟨rfl, rfl, hf⟩
        · have gg : us 1 = .bool true := hR.2 1 (done_at hdo 1 (by rfl))
          have s81 : b0.tmps.getD 81 undef = .bool false := (hslot 16 81 (by rfl)).trans (hR.2 16 (done_at hdo 16 (by rfl)))
          clear hslot hoth hdo hcl hLi
          refine guard_on (j := 1) (want := true) (d := 66) (by rfl) (by rfl) gg ?_
          go_simp
          exact hK _ _ (flat_mark (hR.1) (fun _ _ h => h) hR.2 rfl)
        · have gg : us 1 = .bool false := hR.2 1 (done_at hdo 1 (by rfl))
          refine guard_off (j := 1) (want := true) (d := 66) (by rfl) (by rfl) gg (by rfl) ?_
          exact hK undef _ (flat_mark (hR.1) (fun _ _ h => h) hR.2 rfl)
      · intro b0 us wz L hslot hoth hLi hR hcl hdo K hK
        rcases HL.out with ⟨rfl, rfl, rfl, hf⟩ | ⟨rfl, rfl, hf⟩
        · have gg : us 17 = .bool false := hR.2 17 (done_at hdo 17 (by rfl))
          have s10 : b0.tmps.getD 10 undef = .slice (some ⟨gx, 0, none⟩) 5 cx := hoth 10 (by rfl)
          clear hslot hoth hdo hcl hLi
          refine guard_on (j := 17) (want := false) (d := 82) (by rfl) (by rfl) gg ?_
          go_simp
          exact hK _ _ (flat_mark (hR.1) (fun _ _ h => h) hR.2 rfl)
        · have gg : us 17 = undef := hR.2 17 (done_at hdo 17 (by rfl))
          refine guard_und (j := 17) (want := false) (d := 82) (by rfl) (by rfl) gg ?_
          exact hK undef _ (flat_mark (hR.1) (fun _ _ h => h) hR.2 rfl)
      · intro b0 us wz L hslot hoth hLi hR hcl hdo K hK
        rcases HL.out with ⟨rfl, rfl, rfl, hf⟩ | ⟨rfl, rfl, hf⟩
        · have gg : us 17 = .bool false := hR.2 17 (done_at hdo 17 (by rfl))
          have s11 : b0.tmps.getD 11 undef = .int .i64 (F : Int) := hoth 11 (by rfl)
          clear hslot hoth hdo hcl hLi
          refine guard_on (j := 17) (want := false) (d := 82) (by rfl) (by rfl) gg ?_
          go_simp
          exact hK _ _ (flat_mark (hR.1) (fun _ _ h => h) hR.2 rfl)
        · have gg : us 17 = undef := hR.2 17 (done_at hdo 17 (by rfl))
          refine guard_und (j := 17) (want := false) (d := 82) (by rfl) (by rfl) gg ?_
          exact hK undef _ (flat_mark (hR.1) (fun _ _ h => h) hR.2 rfl)
      · intro b0 us wz L hslot hoth hLi hR hcl hdo K hK
        rcases HL.out with ⟨rfl, rfl, rfl, hf⟩ | ⟨rfl, rfl, hf⟩
        · have gg : us 17 = .bool false := hR.2 17 (done_at hdo 17 (by rfl))
          have s83 : b0.tmps.getD 83 undef = .slice (some ⟨gx, 0, none⟩) 5 cx := (hslot 18 83 (by rfl)).trans (hR.2 18 (done_at hdo 18 (by rfl)))
          have s84 : b0.tmps.getD 84 undef = .int .i64 (F : Int) := (hslot 19 84 (by rfl)).trans (hR.2 19 (done_at hdo 19 (by rfl)))
          have hF0 : ¬ ((F : Int) < 1) := by have := hf.out; omega
          have hF5 : (F : Int) < 5 := by have := hf.out; omega
          have hF5' : ¬ (5 ≤ (F : Int)) := by omega
          clear hslot hoth hdo hcl hLi
          refine guard_on (j := 17) (want := false) (d := 82) (by rfl) (by rfl) gg ?_
          go_simp
          exact hK _ _ (flat_mark (hR.1) (fun _ _ h => h) hR.2 rfl)
        · have gg : us 17 = undef := hR.2 17 (done_at hdo 17 (by rfl))
          refine guard_und (j := 17) (want := false) (d := 82) (by rfl) (by rfl) gg ?_
          exact hK undef _ (flat_mark (hR.1) (fun _ _ h => h) hR.2 rfl)
      · intro b0 us wz L hslot hoth hLi hR hcl hdo K hK
        rcases HL.out with ⟨rfl, rfl, rfl, hf⟩ | ⟨rfl, rfl, hf⟩
        · have gg : us 17 = .bool false := hR.2 17 (done_at hdo 17 (by rfl))
          have s85 : b0.tmps.getD 85 undef = .pointer (some ⟨gx, F * 5, none⟩) := (hslot 20 85 (by rfl)).trans (hR.2 20 (done_at hdo 20 (by rfl)))
          clear hslot hoth hdo hcl hLi
          refine guard_on (j := 17) (want := false) (d := 82) (by rfl) (by rfl) gg ?_
          go_simp
          exact hK _ _ (flat_mark (hR.1) (fun _ _ h => h) hR.2 rfl)
        · have gg : us 17 = undef := hR.2 17 (done_at hdo 17 (by rfl))
          refine guard_und (j := 17) (want := false) (d := 82) (by rfl) (by rfl) gg ?_
          exact hK undef _ (flat_mark (hR.1) (fun _ _ h => h) hR.2 rfl)
      · intro b0 us wz L hslot hoth hLi hR hcl hdo K hK
        rcases HL.out with ⟨rfl, rfl, rfl, hf⟩ | ⟨rfl, rfl, hf⟩
        · have gg : us 17 = .bool false := hR.2 17 (done_at hdo 17 (by rfl))
          have s86 : b0.tmps.getD 86 undef = .pointer (some ⟨gx, F * 5 + 2, none⟩) := (hslot 21 86 (by rfl)).trans (hR.2 21 (done_at hdo 21 (by rfl)))
          have cc := isTree_cell hR.1.2 hf.out.2.1
          rw [hf.out.2.2.1] at cc
          have k2 := cc.c2
          have k3 := cc.c3
          have k4 := cc.c4
          simp only at k2 k3 k4
          clear cc
          clear hslot hoth hdo hcl hLi
          refine guard_on (j := 17) (want := false) (d := 82) (by rfl) (by rfl) gg ?_
          go_simp
          exact hK _ _ (flat_mark (hR.1) (fun _ _ h => h) hR.2 rfl)
        · have gg : us 17 = undef := hR.2 17 (done_at hdo 17 (by rfl))
          refine guard_und (j := 17) (want := false) (d := 82) (by rfl) (by rfl) gg ?_
          exact hK undef _ (flat_mark (hR.1) (fun _ _ h => h) hR.2 rfl)
      · intro b0 us wz L hslot hoth hLi hR hcl hdo K hK
        rcases HL.out with ⟨rfl, rfl, rfl, hf⟩ | ⟨rfl, rfl, hf⟩
        · have gg : us 17 = .bool false := hR.2 17 (done_at hdo 17 (by rfl))
          have s5 : b0.tmps.getD 5 undef = .pointer (some ⟨gb, 0, none⟩) := hoth 5 (by rfl)
          have k0 := hR.1.1.o.box.c0
          have k1 := hR.1.1.o.box.c1
          have k2 := hR.1.1.o.box.c2
          clear hslot hoth hdo hcl hLi
          refine guard_on (j := 17) (want := false) (d := 82) (by rfl) (by rfl) gg ?_
          go_simp
          exact hK _ _ (flat_mark (hR.1) (fun _ _ h => h) hR.2 rfl)
        · have gg : us 17 = undef := hR.2 17 (done_at hdo 17 (by rfl))
          refine guard_und (j := 17) (want := false) (d := 82) (by rfl) (by rfl) gg ?_
          exact hK undef _ (flat_mark (hR.1) (fun _ _ h => h) hR.2 rfl)
      · intro b0 us wz L hslot hoth hLi hR hcl hdo K hK
        rcases HL.out with ⟨rfl, rfl, rfl, hf⟩ | ⟨rfl, rfl, hf⟩
        · have gg : us 17 = .bool false := hR.2 17 (done_at hdo 17 (by rfl))
          have s87 : b0.tmps.getD 87 undef = amt a b c := (hslot 22 87 (by rfl)).trans (hR.2 22 (done_at hdo 22 (by rfl)))
          have s88 : b0.tmps.getD 88 undef = amt a b c := (hslot 23 88 (by rfl)).trans (hR.2 23 (done_at hdo 23 (by rfl)))
          clear hslot hoth hdo hcl hLi
          refine guard_on (j := 17) (want := false) (d := 82) (by rfl) (by rfl) gg ?_
          go_simp
          exact hK _ _ (flat_mark (hR.1) (fun _ _ h => h) hR.2 rfl)
        · have gg : us 17 = undef := hR.2 17 (done_at hdo 17 (by rfl))
          refine guard_und (j := 17) (want := false) (d := 82) (by rfl) (by rfl) gg ?_
          exact hK undef _ (flat_mark (hR.1) (fun _ _ h => h) hR.2 rfl)
      · intro b0 us wz L hslot hoth hLi hR hcl hdo K hK
        rcases HL.out with ⟨rfl, rfl, rfl, hf⟩ | ⟨rfl, rfl, hf⟩
        · have gg : us 1 = .bool true := hR.2 1 (done_at hdo 1 (by rfl))
          have s82 : b0.tmps.getD 82 undef = .bool false := (hslot 17 82 (by rfl)).trans (hR.2 17 (done_at hdo 17 (by rfl)))
          have s89 : b0.tmps.getD 89 undef = .bool false := (hslot 24 89 (by rfl)).trans (hR.2 24 (done_at hdo 24 (by rfl)))
          clear hslot hoth hdo hcl hLi
          refine guard_on (j := 1) (want := true) (d := 66) (by rfl) (by rfl) gg ?_
          go_simp
          exact hK _ _ (flat_mark (hR.1) (fun _ _ h => h) hR.2 rfl)
        · have gg : us 1 = .bool false := hR.2 1 (done_at hdo 1 (by rfl))
          refine guard_off (j := 1) (want := true) (d := 66) (by rfl) (by rfl) gg (by rfl) ?_
          exact hK undef _ (flat_mark (hR.1) (fun _ _ h => h) hR.2 rfl)
      · intro b0 us wz L hslot hoth hLi hR hcl hdo K hK
        rcases HL.out with ⟨rfl, rfl, rfl, hf⟩ | ⟨rfl, rfl, hf⟩
        · have gg : us 1 = .bool true := hR.2 1 (done_at hdo 1 (by rfl))
          have s90 : b0.tmps.getD 90 undef = .bool false := (hslot 25 90 (by rfl)).trans (hR.2 25 (done_at hdo 25 (by rfl)))
          clear hslot hoth hdo hcl hLi
          refine guard_on (j := 1) (want := true) (d := 66) (by rfl) (by rfl) gg ?_
          go_simp
          exact hK _ _ (flat_mark (hR.1) (fun _ _ h => h) hR.2 rfl)
        · have gg : us 1 = .bool false := hR.2 1 (done_at hdo 1 (by rfl))
          refine guard_off (j := 1) (want := true) (d := 66) (by rfl) (by rfl) gg (by rfl) ?_
          exact hK undef _ (flat_mark (hR.1) (fun _ _ h => h) hR.2 rfl)
      · intro b0 us wz L hslot hoth hLi hR hcl hdo K hK
        rcases HL.out with ⟨rfl, rfl, rfl, hf⟩ | ⟨rfl, rfl, hf⟩
        · have gg : us 26 = .bool false := hR.2 26 (done_at hdo 26 (by rfl))
          have s3 : b0.tmps.getD 3 undef = .slice (some ⟨gt, 0, none⟩) 5 ct := hoth 3 (by rfl)
          clear hslot hoth hdo hcl hLi
          refine guard_on (j := 26) (want := false) (d := 91) (by rfl) (by rfl) gg ?_
          go_simp
          exact hK _ _ (flat_mark (hR.1) (fun _ _ h => h) hR.2 rfl)
        · have gg : us 26 = undef := hR.2 26 (done_at hdo 26 (by rfl))
          refine guard_und (j := 26) (want := false) (d := 91) (by rfl) (by rfl) gg ?_
          exact hK undef _ (flat_mark (hR.1) (fun _ _ h => h) hR.2 rfl)
      · intro b0 us wz L hslot hoth hLi hR hcl hdo K hK
        rcases HL.out with ⟨rfl, rfl, rfl, hf⟩ | ⟨rfl, rfl, hf⟩
        · have gg : us 26 = .bool false := hR.2 26 (done_at hdo 26 (by rfl))
          have s11 : b0.tmps.getD 11 undef = .int .i64 (F : Int) := hoth 11 (by rfl)
          clear hslot hoth hdo hcl hLi
          refine guard_on (j := 26) (want := false) (d := 91) (by rfl) (by rfl) gg ?_
          go_simp
          exact hK _ _ (flat_mark (hR.1) (fun _ _ h => h) hR.2 rfl)
        · have gg : us 26 = undef := hR.2 26 (done_at hdo 26 (by rfl))
          refine guard_und (j := 26) (want := false) (d := 91) (by rfl) (by rfl) gg ?_
          exact hK undef _ (flat_mark (hR.1) (fun _ _ h => h) hR.2 rfl)
      · intro b0 us wz L hslot hoth hLi hR hcl hdo K hK
        rcases HL.out with ⟨rfl, rfl, rfl, hf⟩ | ⟨rfl, rfl, hf⟩
        · have gg : us 26 = .bool false := hR.2 26 (done_at hdo 26 (by rfl))
          have s92 : b0.tmps.getD 92 undef = .slice (some ⟨gt, 0, none⟩) 5 ct := (hslot 27 92 (by rfl)).trans (hR.2 27 (done_at hdo 27 (by rfl)))
          have s93 : b0.tmps.getD 93 undef = .int .i64 (F : Int) := (hslot 28 93 (by rfl)).trans (hR.2 28 (done_at hdo 28 (by rfl)))
          have hF0 : ¬ ((F : Int) < 1) := by have := hf.out; omega
          have hF5 : (F : Int) < 5 := by have := hf.out; omega
          have hF5' : ¬ (5 ≤ (F : Int)) := by omega
          clear hslot hoth hdo hcl hLi
          refine guard_on (j := 26) (want := false) (d := 91) (by rfl) (by rfl) gg ?_
          go_simp
          exact hK _ _ (flat_mark (hR.1) (fun _ _ h => h) hR.2 rfl)
        · have gg : us 26 = undef := hR.2 26 (done_at hdo 26 (by rfl))
          refine guard_und (j := 26) (want := false) (d := 91) (by rfl) (by rfl) gg ?_
          exact hK undef _ (flat_mark (hR.1) (fun _ _ h => h) hR.2 rfl)
      · intro b0 us wz L hslot hoth hLi hR hcl hdo K hK
        rcases HL.out with ⟨rfl, rfl, rfl, hf⟩ | ⟨rfl, rfl, hf⟩
        · have gg : us 26 = .bool false := hR.2 26 (done_at hdo 26 (by rfl))
          have s94 : b0.tmps.getD 94 undef = .pointer (some ⟨gt, F * 5, none⟩) := (hslot 29 94 (by rfl)).trans (hR.2 29 (done_at hdo 29 (by rfl)))
          clear hslot hoth hdo hcl hLi
          refine guard_on (j := 26) (want := false) (d := 91) (by rfl) (by rfl) gg ?_
          go_simp
          exact hK _ _ (flat_mark (hR.1) (fun _ _ h => h) hR.2 rfl)
        · have gg : us 26 = undef := hR.2 26 (done_at hdo 26 (by rfl))
          refine guard_und (j := 26) (want := false) (d := 91) (by rfl) (by rfl) gg ?_
          exact hK undef _ (flat_mark (hR.1) (fun _ _ h => h) hR.2 rfl)
      · intro b0 us wz L hslot hoth hLi hR hcl hdo K hK
        rcases HL.out with ⟨rfl, rfl, rfl, hf⟩ | ⟨rfl, rfl, hf⟩
        · have gg : us 26 = .bool false := hR.2 26 (done_at hdo 26 (by rfl))
          have s95 : b0.tmps.getD 95 undef = .pointer (some ⟨gt, F * 5, none⟩) := (hslot 30 95 (by rfl)).trans (hR.2 30 (done_at hdo 30 (by rfl)))
          have k0 := (isTree_cell hR.1.1.o.t hf.out.2.1).c0
          rw [hf.out.2.2.2] at k0
          clear hslot hoth hdo hcl hLi
          refine guard_on (j := 26) (want := false) (d := 91) (by rfl) (by rfl) gg ?_
          go_simp
          exact hK _ _ (flat_mark (hR.1) (fun _ _ h => h) hR.2 rfl)
        · have gg : us 26 = undef := hR.2 26 (done_at hdo 26 (by rfl))
          refine guard_und (j := 26) (want := false) (d := 91) (by rfl) (by rfl) gg ?_
          exact hK undef _ (flat_mark (hR.1) (fun _ _ h => h) hR.2 rfl)
      · intro b0 us wz L hslot hoth hLi hR hcl hdo K hK
        rcases HL.out with ⟨rfl, rfl, rfl, hf⟩ | ⟨rfl, rfl, hf⟩
        · have gg : us 1 = .bool true := hR.2 1 (done_at hdo 1 (by rfl))
          have s91 : b0.tmps.getD 91 undef = .bool false := (hslot 26 91 (by rfl)).trans (hR.2 26 (done_at hdo 26 (by rfl)))
          have s96 : b0.tmps.getD 96 undef = .bool false := (hslot 31 96 (by rfl)).trans (hR.2 31 (done_at hdo 31 (by rfl)))
          clear hslot hoth hdo hcl hLi
          refine guard_on (j := 1) (want := true) (d := 66) (by rfl) (by rfl) gg ?_
          go_simp
          exact hK _ _ (flat_mark (hR.1) (fun _ _ h => h) hR.2 rfl)
        · have gg : us 1 = .bool false := hR.2 1 (done_at hdo 1 (by rfl))
          refine guard_off (j := 1) (want := true) (d := 66) (by rfl) (by rfl) gg (by rfl) ?_
          exact hK undef _ (flat_mark (hR.1) (fun _ _ h => h) hR.2 rfl)
      · intro b0 us wz L hslot hoth hLi hR hcl hdo K hK
        rcases HL.out with ⟨rfl, rfl, rfl, hf⟩ | ⟨rfl, rfl, hf⟩
        · have s66 : b0.tmps.getD 66 undef = .bool true := (hslot 1 66 (by rfl)).trans (hR.2 1 (done_at hdo 1 (by rfl)))
          have s97 : b0.tmps.getD 97 undef = .bool false := (hslot 32 97 (by rfl)).trans (hR.2 32 (done_at hdo 32 (by rfl)))
          clear hslot hoth hdo hcl hLi
          refine guard_none (by rfl) ?_
          go_simp
          exact hK _ _ (flat_mark (hR.1) (fun _ _ h => h) hR.2 rfl)
        · have s66 : b0.tmps.getD 66 undef = .bool false := (hslot 1 66 (by rfl)).trans (hR.2 1 (done_at hdo 1 (by rfl)))
          have s97 : b0.tmps.getD 97 undef = undef := (hslot 32 97 (by rfl)).trans (hR.2 32 (done_at hdo 32 (by rfl)))
          clear hslot hoth hdo hcl hLi
          refine guard_none (by rfl) ?_
          go_simp
          exact hK _ _ (flat_mark (hR.1) (fun _ _ h => h) hR.2 rfl)
      · intro b0 us wz L hslot hoth hLi hR hcl hdo K hK
        rcases HL.out with ⟨rfl, rfl, rfl, hf⟩ | ⟨rfl, rfl, hf⟩
        · have s98 : b0.tmps.getD 98 undef = .bool false := (hslot 33 98 (by rfl)).trans (hR.2 33 (done_at hdo 33 (by rfl)))
          clear hslot hoth hdo hcl hLi
          refine guard_none (by rfl) ?_
          go_simp
          exact hK _ _ (flat_mark (hR.1) (fun _ _ h => h) hR.2 rfl)
        · have s98 : b0.tmps.getD 98 undef = .bool false := (hslot 33 98 (by rfl)).trans (hR.2 33 (done_at hdo 33 (by rfl)))
          clear hslot hoth hdo hcl hLi
          refine guard_none (by rfl) ?_
          go_simp
          exact hK _ _ (flat_mark (hR.1) (fun _ _ h => h) hR.2 rfl)
      · intro b0 us wz L hslot hoth hLi hR hcl hdo K hK
        rcases HL.out with ⟨rfl, rfl, rfl, hf⟩ | ⟨rfl, rfl, hf⟩
        · have gg : us 34 = .bool false := hR.2 34 (done_at hdo 34 (by rfl))
          have s12 : b0.tmps.getD 12 undef = .bool true := hoth 12 (by rfl)
          clear hslot hoth hdo hcl hLi
          refine guard_on (j := 34) (want := false) (d := 99) (by rfl) (by rfl) gg ?_
          go_simp
          exact hK _ _ (flat_mark (hR.1) (fun _ _ h => h) hR.2 rfl)
        · have gg : us 34 = .bool false := hR.2 34 (done_at hdo 34 (by rfl))
          have s12 : b0.tmps.getD 12 undef = .bool false := hoth 12 (by rfl)
          clear hslot hoth hdo hcl hLi
          refine guard_on (j := 34) (want := false) (d := 99) (by rfl) (by rfl) gg ?_
          go_simp
          exact hK _ _ (flat_mark (hR.1) (fun _ _ h => h) hR.2 rfl)
      · intro b0 us wz L hslot hoth hLi hR hcl hdo K hK
        rcases HL.out with ⟨rfl, rfl, rfl, hf⟩ | ⟨rfl, rfl, hf⟩
        · have gg : us 34 = .bool false := hR.2 34 (done_at hdo 34 (by rfl))
          have s100 : b0.tmps.getD 100 undef = .bool true := (hslot 35 100 (by rfl)).trans (hR.2 35 (done_at hdo 35 (by rfl)))
          clear hslot hoth hdo hcl hLi
          refine guard_on (j := 34) (want := false) (d := 99) (by rfl) (by rfl) gg ?_
          go_simp
          exact hK _ _ (flat_mark (hR.1) (fun _ _ h => h) hR.2 rfl)
        · have gg : us 34 = .bool false := hR.2 34 (done_at hdo 34 (by rfl))
          have s100 : b0.tmps.getD 100 undef = .bool false := (hslot 35 100 (by rfl)).trans (hR.2 35 (done_at hdo 35 (by rfl)))
          clear hslot hoth hdo hcl hLi
          refine guard_on (j := 34) (want := false) (d := 99) (by rfl) (by rfl) gg ?_
          go_simp
          exact hK _ _ (flat_mark (hR.1) (fun _ _ h => h) hR.2 rfl)
      · intro b0 us wz L hslot hoth hLi hR hcl hdo K hK
        rcases HL.out with ⟨rfl, rfl, rfl, hf⟩ | ⟨rfl, rfl, hf⟩
        · have gg : us 34 = .bool false := hR.2 34 (done_at hdo 34 (by rfl))
          have s101 : b0.tmps.getD 101 undef = .bool false := (hslot 36 101 (by rfl)).trans (hR.2 36 (done_at hdo 36 (by rfl)))
          clear hslot hoth hdo hcl hLi
          refine guard_on (j := 34) (want := false) (d := 99) (by rfl) (by rfl) gg ?_
          go_simp
          exact hK _ _ (flat_mark (hR.1) (fun _ _ h => h) hR.2 rfl)
        · have gg : us 34 = .bool false := hR.2 34 (done_at hdo 34 (by rfl))
          have s101 : b0.tmps.getD 101 undef = .bool true := (hslot 36 101 (by rfl)).trans (hR.2 36 (done_at hdo 36 (by rfl)))
          clear hslot hoth hdo hcl hLi
          refine guard_on (j := 34) (want := false) (d := 99) (by rfl) (by rfl) gg ?_
          go_simp
          exact hK _ _ (flat_mark (hR.1) (fun _ _ h => h) hR.2 rfl)
      · intro b0 us wz L hslot hoth hLi hR hcl hdo K hK
        rcases HL.out with ⟨rfl, rfl, rfl, hf⟩ | ⟨rfl, rfl, hf⟩
        · have gg : us 37 = .bool false := hR.2 37 (done_at hdo 37 (by rfl))
          refine guard_off (j := 37) (want := true) (d := 102) (by rfl) (by rfl) gg (by rfl) ?_
          exact hK undef _ (flat_mark (hR.1) (fun _ _ h => h) hR.2 rfl)
        · have gg : us 37 = .bool true := hR.2 37 (done_at hdo 37 (by rfl))
          have s10 : b0.tmps.getD 10 undef = .slice (some ⟨gx, 0, none⟩) 5 cx := hoth 10 (by rfl)
          clear hslot hoth hdo hcl hLi
          refine guard_on (j := 37) (want := true) (d := 102) (by rfl) (by rfl) gg ?_
          go_simp
          exact hK _ _ (flat_mark (hR.1) (fun _ _ h => h) hR.2 rfl)
      · intro b0 us wz L hslot hoth hLi hR hcl hdo K hK
        rcases HL.out with ⟨rfl, rfl, rfl, hf⟩ | ⟨rfl, rfl, hf⟩
        · have gg : us 37 = .bool false := hR.2 37 (done_at hdo 37 (by rfl))
          refine guard_off (j := 37) (want := true) (d := 102) (by rfl) (by rfl) gg (by rfl) ?_
          exact hK undef _ (flat_mark (hR.1) (fun _ _ h => h) hR.2 rfl)
        · have gg : us 37 = .bool true := hR.2 37 (done_at hdo 37 (by rfl))
          have s3 : b0.tmps.getD 3 undef = .slice (some ⟨gt, 0, none⟩) 5 ct := hoth 3 (by rfl)
          clear hslot hoth hdo hcl hLi
          refine guard_on (j := 37) (want := true) (d := 102) (by rfl) (by rfl) gg ?_
          go_simp
          exact hK _ _ (flat_mark (hR.1) (fun _ _ h => h) hR.2 rfl)
      · intro b0 us wz L hslot hoth hLi hR hcl hdo K hK
        rcases HL.out with ⟨rfl, rfl, rfl, hf⟩ | ⟨rfl, rfl, hf⟩
        · have gg : us 37 = .bool false := hR.2 37 (done_at hdo 37 (by rfl))
          refine guard_off (j := 37) (want := true) (d := 102) (by rfl) (by rfl) gg (by rfl) ?_
          exact hK undef _ (flat_mark (hR.1) (fun _ _ h => h) hR.2 rfl)
        · have gg : us 37 = .bool true := hR.2 37 (done_at hdo 37 (by rfl))
          have s103 : b0.tmps.getD 103 undef = .slice (some ⟨gx, 0, none⟩) 5 cx := (hslot 38 103 (by rfl)).trans (hR.2 38 (done_at hdo 38 (by rfl)))
          have s104 : b0.tmps.getD 104 undef = .slice (some ⟨gt, 0, none⟩) 5 ct := (hslot 39 104 (by rfl)).trans (hR.2 39 (done_at hdo 39 (by rfl)))
          have HXT := hR.1.2
          rw [hf.out] at HXT
          clear hslot hoth hdo hcl hLi
          refine guard_on (j := 37) (want := true) (d := 102) (by rfl) (by rfl) gg ?_
          go_simp
          refine (same5 HXT hR.1.1.o.t).mono ?_
          rintro e w' ⟨rfl, hb⟩
          exact hK _ _ (flat_mark ⟨hR.1.1.on hb, hR.1.2.on hb⟩ (fun _ _ h => h) hR.2 rfl)
      · intro b0 us wz L hslot hoth hLi hR hcl hdo K hK
        rcases HL.out with ⟨rfl, rfl, rfl, hf⟩ | ⟨rfl, rfl, hf⟩
        · have gg : us 37 = .bool false := hR.2 37 (done_at hdo 37 (by rfl))
          refine guard_off (j := 37) (want := true) (d := 102) (by rfl) (by rfl) gg (by rfl) ?_
          exact hK undef _ (flat_mark (hR.1) (fun _ _ h => h) hR.2 rfl)
        · have gg : us 37 = .bool true := hR.2 37 (done_at hdo 37 (by rfl))
          have s105 : b0.tmps.getD 105 undef = .bool true := (hslot 40 105 (by rfl)).trans (hR.2 40 (done_at hdo 40 (by rfl)))
          clear hslot hoth hdo hcl hLi
          refine guard_on (j := 37) (want := true) (d := 102) (by rfl) (by rfl) gg ?_
          go_simp
          exact hK _ _ (flat_mark (hR.1) (fun _ _ h => h) hR.2 rfl)
      · intro b0 us wz L hslot hoth hLi hR hcl hdo K hK
        rcases HL.out with ⟨rfl, rfl, rfl, hf⟩ | ⟨rfl, rfl, hf⟩
        · have gg : us 34 = .bool false := hR.2 34 (done_at hdo 34 (by rfl))
          have s102 : b0.tmps.getD 102 undef = .bool false := (hslot 37 102 (by rfl)).trans (hR.2 37 (done_at hdo 37 (by rfl)))
          have s106 : b0.tmps.getD 106 undef = undef := (hslot 41 106 (by rfl)).trans (hR.2 41 (done_at hdo 41 (by rfl)))
          clear hslot hoth hdo hcl hLi
          refine guard_on (j := 34) (want := false) (d := 99) (by rfl) (by rfl) gg ?_
          go_simp
          exact hK _ _ (flat_mark (hR.1) (fun _ _ h => h) hR.2 rfl)
        · have gg : us 34 = .bool false := hR.2 34 (done_at hdo 34 (by rfl))
          have s102 : b0.tmps.getD 102 undef = .bool true := (hslot 37 102 (by rfl)).trans (hR.2 37 (done_at hdo 37 (by rfl)))
          have s106 : b0.tmps.getD 106 undef = .bool false := (hslot 41 106 (by rfl)).trans (hR.2 41 (done_at hdo 41 (by rfl)))
          clear hslot hoth hdo hcl hLi
          refine guard_on (j := 34) (want := false) (d := 99) (by rfl) (by rfl) gg ?_
          go_simp
          exact hK _ _ (flat_mark (hR.1) (fun _ _ h => h) hR.2 rfl)
      · intro b0 us wz L hslot hoth hLi hR hcl hdo K hK
        rcases HL.out with ⟨rfl, rfl, rfl, hf⟩ | ⟨rfl, rfl, hf⟩
        · have s99 : b0.tmps.getD 99 undef = .bool false := (hslot 34 99 (by rfl)).trans (hR.2 34 (done_at hdo 34 (by rfl)))
          have s107 : b0.tmps.getD 107 undef = .bool false := (hslot 42 107 (by rfl)).trans (hR.2 42 (done_at hdo 42 (by rfl)))
          clear hslot hoth hdo hcl hLi
          refine guard_none (by rfl) ?_
          go_simp
          exact hK _ _ (flat_mark (hR.1) (fun _ _ h => h) hR.2 rfl)
        · have s99 : b0.tmps.getD 99 undef = .bool false := (hslot 34 99 (by rfl)).trans (hR.2 34 (done_at hdo 34 (by rfl)))
          have s107 : b0.tmps.getD 107 undef = .bool false := (hslot 42 107 (by rfl)).trans (hR.2 42 (done_at hdo 42 (by rfl)))
          clear hslot hoth hdo hcl hLi
          refine guard_none (by rfl) ?_
          go_simp
          exact hK _ _ (flat_mark (hR.1) (fun _ _ h => h) hR.2 rfl)
      · intro b0 us wz L hslot hoth hLi hR hcl hdo K hK
        rcases HL.out with ⟨rfl, rfl, rfl, hf⟩ | ⟨rfl, rfl, hf⟩
        · have s108 : b0.tmps.getD 108 undef = .bool false := (hslot 43 108 (by rfl)).trans (hR.2 43 (done_at hdo 43 (by rfl)))
          clear hslot hoth hdo hcl hLi
          refine guard_none (by rfl) ?_
          go_simp
          exact hK _ _ (flat_mark (hR.1) (fun _ _ h => h) hR.2 rfl)
        · have s108 : b0.tmps.getD 108 undef = .bool false := (hslot 43 108 (by rfl)).trans (hR.2 43 (done_at hdo 43 (by rfl)))
          clear hslot hoth hdo hcl hLi
          refine guard_none (by rfl) ?_
          go_simp
          exact hK _ _ (flat_mark (hR.1) (fun _ _ h => h) hR.2 rfl)
      · intro b0 us wz L hslot hoth hLi hR hcl hdo K hK
        rcases HL.out with ⟨rfl, rfl, rfl, hf⟩ | ⟨rfl, rfl, hf⟩
        · have gg : us 44 = .bool false := hR.2 44 (done_at hdo 44 (by rfl))
          have s10 : b0.tmps.getD 10 undef = .slice (some ⟨gx, 0, none⟩) 5 cx := hoth 10 (by rfl)
          clear hslot hoth hdo hcl hLi
          refine guard_on (j := 44) (want := false) (d := 109) (by rfl) (by rfl) gg ?_
          go_simp
          exact hK _ _ (flat_mark (hR.1) (fun _ _ h => h) hR.2 rfl)
        · have gg : us 44 = .bool false := hR.2 44 (done_at hdo 44 (by rfl))
          have s10 : b0.tmps.getD 10 undef = .slice (some ⟨gx, 0, none⟩) 5 cx := hoth 10 (by rfl)
          clear hslot hoth hdo hcl hLi
          refine guard_on (j := 44) (want := false) (d := 109) (by rfl) (by rfl) gg ?_
          go_simp
          exact hK _ _ (flat_mark (hR.1) (fun _ _ h => h) hR.2 rfl)
      · intro b0 us wz L hslot hoth hLi hR hcl hdo K hK
        rcases HL.out with ⟨rfl, rfl, rfl, hf⟩ | ⟨rfl, rfl, hf⟩
        · have gg : us 44 = .bool false := hR.2 44 (done_at hdo 44 (by rfl))
          have s110 : b0.tmps.getD 110 undef = .slice (some ⟨gx, 0, none⟩) 5 cx := (hslot 45 110 (by rfl)).trans (hR.2 45 (done_at hdo 45 (by rfl)))
          clear hslot hoth hdo hcl hLi
          refine guard_on (j := 44) (want := false) (d := 109) (by rfl) (by rfl) gg ?_
          go_simp
          refine (specOk5 hR.1.2 HSX.out.ok).mono ?_
          rintro e w' ⟨rfl, hb⟩
          exact hK _ _ (flat_mark ⟨hR.1.1.on hb, hR.1.2.on hb⟩ (fun _ _ h => h) hR.2 rfl)
        · have gg : us 44 = .bool false := hR.2 44 (done_at hdo 44 (by rfl))
          have s110 : b0.tmps.getD 110 undef = .slice (some ⟨gx, 0, none⟩) 5 cx := (hslot 45 110 (by rfl)).trans (hR.2 45 (done_at hdo 45 (by rfl)))
          clear hslot hoth hdo hcl hLi
          refine guard_on (j := 44) (want := false) (d := 109) (by rfl) (by rfl) gg ?_
          go_simp
          refine (specOk5 hR.1.2 HSX.out.ok).mono ?_
          rintro e w' ⟨rfl, hb⟩
          exact hK _ _ (flat_mark ⟨hR.1.1.on hb, hR.1.2.on hb⟩ (fun _ _ h => h) hR.2 rfl)
      · intro b0 us wz L hslot hoth hLi hR hcl hdo K hK
        rcases HL.out with ⟨rfl, rfl, rfl, hf⟩ | ⟨rfl, rfl, hf⟩
        · have gg : us 44 = .bool false := hR.2 44 (done_at hdo 44 (by rfl))
          have s111 : b0.tmps.getD 111 undef = .bool true := (hslot 46 111 (by rfl)).trans (hR.2 46 (done_at hdo 46 (by rfl)))
          clear hslot hoth hdo hcl hLi
          refine guard_on (j := 44) (want := false) (d := 109) (by rfl) (by rfl) gg ?_
          go_simp
          exact hK _ _ (flat_mark (hR.1) (fun _ _ h => h) hR.2 rfl)
        · have gg : us 44 = .bool false := hR.2 44 (done_at hdo 44 (by rfl))
          have s111 : b0.tmps.getD 111 undef = .bool true := (hslot 46 111 (by rfl)).trans (hR.2 46 (done_at hdo 46 (by rfl)))
          clear hslot hoth hdo hcl hLi
          refine guard_on (j := 44) (want := false) (d := 109) (by rfl) (by rfl) gg ?_
          go_simp
          exact hK _ _ (flat_mark (hR.1) (fun _ _ h => h) hR.2 rfl)
      · intro b0 us wz L hslot hoth hLi hR hcl hdo K hK
        rcases HL.out with ⟨rfl, rfl, rfl, hf⟩ | ⟨rfl, rfl, hf⟩
        · have s109 : b0.tmps.getD 109 undef = .bool false := (hslot 44 109 (by rfl)).trans (hR.2 44 (done_at hdo 44 (by rfl)))
          have s112 : b0.tmps.getD 112 undef = .bool false := (hslot 47 112 (by rfl)).trans (hR.2 47 (done_at hdo 47 (by rfl)))
          clear hslot hoth hdo hcl hLi
          refine guard_none (by rfl) ?_
          go_simp
          exact hK _ _ (flat_mark (hR.1) (fun _ _ h => h) hR.2 rfl)
        · have s109 : b0.tmps.getD 109 undef = .bool false := (hslot 44 109 (by rfl)).trans (hR.2 44 (done_at hdo 44 (by rfl)))
          have s112 : b0.tmps.getD 112 undef = .bool false := (hslot 47 112 (by rfl)).trans (hR.2 47 (done_at hdo 47 (by rfl)))
          clear hslot hoth hdo hcl hLi
          refine guard_none (by rfl) ?_
          go_simp
          exact hK _ _ (flat_mark (hR.1) (fun _ _ h => h) hR.2 rfl)
      · intro b0 us wz L hslot hoth hLi hR hcl hdo K hK
        rcases HL.out with ⟨rfl, rfl, rfl, hf⟩ | ⟨rfl, rfl, hf⟩
        · have s113 : b0.tmps.getD 113 undef = .bool false := (hslot 48 113 (by rfl)).trans (hR.2 48 (done_at hdo 48 (by rfl)))
          clear hslot hoth hdo hcl hLi
          refine guard_none (by rfl) ?_
          go_simp
          exact hK _ _ (flat_mark (hR.1) (fun _ _ h => h) hR.2 rfl)
        · have s113 : b0.tmps.getD 113 undef = .bool false := (hslot 48 113 (by rfl)).trans (hR.2 48 (done_at hdo 48 (by rfl)))
          clear hslot hoth hdo hcl hLi
          refine guard_none (by rfl) ?_
          go_simp
          exact hK _ _ (flat_mark (hR.1) (fun _ _ h => h) hR.2 rfl)
      · intro b0 us wz L hslot hoth hLi hR hcl hdo K hK
        rcases HL.out with ⟨rfl, rfl, rfl, hf⟩ | ⟨rfl, rfl, hf⟩
        · have gg : us 49 = .bool false := hR.2 49 (done_at hdo 49 (by rfl))
          have s10 : b0.tmps.getD 10 undef = .slice (some ⟨gx, 0, none⟩) 5 cx := hoth 10 (by rfl)
          clear hslot hoth hdo hcl hLi
          refine guard_on (j := 49) (want := false) (d := 114) (by rfl) (by rfl) gg ?_
          go_simp
          exact hK _ _ (flat_mark (hR.1) (fun _ _ h => h) hR.2 rfl)
        · have gg : us 49 = .bool false := hR.2 49 (done_at hdo 49 (by rfl))
          have s10 : b0.tmps.getD 10 undef = .slice (some ⟨gx, 0, none⟩) 5 cx := hoth 10 (by rfl)
          clear hslot hoth hdo hcl hLi
          refine guard_on (j := 49) (want := false) (d := 114) (by rfl) (by rfl) gg ?_
          go_simp
          exact hK _ _ (flat_mark (hR.1) (fun _ _ h => h) hR.2 rfl)
      · intro b0 us wz L hslot hoth hLi hR hcl hdo K hK
        rcases HL.out with ⟨rfl, rfl, rfl, hf⟩ | ⟨rfl, rfl, hf⟩
        · have gg : us 49 = .bool false := hR.2 49 (done_at hdo 49 (by rfl))
          have s115 : b0.tmps.getD 115 undef = .slice (some ⟨gx, 0, none⟩) 5 cx := (hslot 50 115 (by rfl)).trans (hR.2 50 (done_at hdo 50 (by rfl)))
          clear hslot hoth hdo hcl hLi
          refine guard_on (j := 49) (want := false) (d := 114) (by rfl) (by rfl) gg ?_
          go_simp
          refine (sum5 hR.1.2 HSX.out HABC.out.1 HABC.out.2.1 HABC.out.2.2).mono ?_
          rintro e w' ⟨rfl, hb⟩
          exact hK _ _ (flat_mark ⟨hR.1.1.on hb, hR.1.2.on hb⟩ (fun _ _ h => h) hR.2 rfl)
        · have gg : us 49 = .bool false := hR.2 49 (done_at hdo 49 (by rfl))
          have s115 : b0.tmps.getD 115 undef = .slice (some ⟨gx, 0, none⟩) 5 cx := (hslot 50 115 (by rfl)).trans (hR.2 50 (done_at hdo 50 (by rfl)))
          clear hslot hoth hdo hcl hLi
          refine guard_on (j := 49) (want := false) (d := 114) (by rfl) (by rfl) gg ?_
          go_simp
          refine (sum5 hR.1.2 HSX.out HABC.out.1 HABC.out.2.1 HABC.out.2.2).mono ?_
          rintro e w' ⟨rfl, hb⟩
          exact hK _ _ (flat_mark ⟨hR.1.1.on hb, hR.1.2.on hb⟩ (fun _ _ h => h) hR.2 rfl)
      · intro b0 us wz L hslot hoth hLi hR hcl hdo K hK
        rcases HL.out with ⟨rfl, rfl, rfl, hf⟩ | ⟨rfl, rfl, hf⟩
        · have gg : us 49 = .bool false := hR.2 49 (done_at hdo 49 (by rfl))
          have s9 : b0.tmps.getD 9 undef = .pointer (some ⟨gs, 0, none⟩) := hoth 9 (by rfl)
          have k0 := hR.1.1.sum.c0
          have k1 := hR.1.1.sum.c1
          have k2 := hR.1.1.sum.c2
          clear hslot hoth hdo hcl hLi
          refine guard_on (j := 49) (want := false) (d := 114) (by rfl) (by rfl) gg ?_
          go_simp
          exact hK _ _ (flat_mark (hR.1) (fun _ _ h => h) hR.2 rfl)
        · have gg : us 49 = .bool false := hR.2 49 (done_at hdo 49 (by rfl))
          have s9 : b0.tmps.getD 9 undef = .pointer (some ⟨gs, 0, none⟩) := hoth 9 (by rfl)
          have k0 := hR.1.1.sum.c0
          have k1 := hR.1.1.sum.c1
          have k2 := hR.1.1.sum.c2
          clear hslot hoth hdo hcl hLi
          refine guard_on (j := 49) (want := false) (d := 114) (by rfl) (by rfl) gg ?_
          go_simp
          exact hK _ _ (flat_mark (hR.1) (fun _ _ h => h) hR.2 rfl)
      · intro b0 us wz L hslot hoth hLi hR hcl hdo K hK
        rcases HL.out with ⟨rfl, rfl, rfl, hf⟩ | ⟨rfl, rfl, hf⟩
        · have gg : us 49 = .bool false := hR.2 49 (done_at hdo 49 (by rfl))
          have s116 : b0.tmps.getD 116 undef = amt A B C := (hslot 51 116 (by rfl)).trans (hR.2 51 (done_at hdo 51 (by rfl)))
          have s117 : b0.tmps.getD 117 undef = amt A B C := (hslot 52 117 (by rfl)).trans (hR.2 52 (done_at hdo 52 (by rfl)))
          clear hslot hoth hdo hcl hLi
          refine guard_on (j := 49) (want := false) (d := 114) (by rfl) (by rfl) gg ?_
          go_simp
          exact hK _ _ (flat_mark (hR.1) (fun _ _ h => h) hR.2 rfl)
        · have gg : us 49 = .bool false := hR.2 49 (done_at hdo 49 (by rfl))
          have s116 : b0.tmps.getD 116 undef = amt A B C := (hslot 51 116 (by rfl)).trans (hR.2 51 (done_at hdo 51 (by rfl)))
          have s117 : b0.tmps.getD 117 undef = amt A B C := (hslot 52 117 (by rfl)).trans (hR.2 52 (done_at hdo 52 (by rfl)))
          clear hslot hoth hdo hcl hLi
          refine guard_on (j := 49) (want := false) (d := 114) (by rfl) (by rfl) gg ?_
          go_simp
          exact hK _ _ (flat_mark (hR.1) (fun _ _ h => h) hR.2 rfl)
      · intro b0 us wz L hslot hoth hLi hR hcl hdo K hK
        rcases HL.out with ⟨rfl, rfl, rfl, hf⟩ | ⟨rfl, rfl, hf⟩
        · have s114 : b0.tmps.getD 114 undef = .bool false := (hslot 49 114 (by rfl)).trans (hR.2 49 (done_at hdo 49 (by rfl)))
          have s118 : b0.tmps.getD 118 undef = .bool false := (hslot 53 118 (by rfl)).trans (hR.2 53 (done_at hdo 53 (by rfl)))
          clear hslot hoth hdo hcl hLi
          refine guard_none (by rfl) ?_
          go_simp
          exact hK _ _ (flat_mark (hR.1) (fun _ _ h => h) hR.2 rfl)
        · have s114 : b0.tmps.getD 114 undef = .bool false := (hslot 49 114 (by rfl)).trans (hR.2 49 (done_at hdo 49 (by rfl)))
          have s118 : b0.tmps.getD 118 undef = .bool false := (hslot 53 118 (by rfl)).trans (hR.2 53 (done_at hdo 53 (by rfl)))
          clear hslot hoth hdo hcl hLi
          refine guard_none (by rfl) ?_
          go_simp
          exact hK _ _ (flat_mark (hR.1) (fun _ _ h => h) hR.2 rfl)
    · intro us wn L hall hR a' ha'
      have g54 : us 54 = .bool false := by
        have := hR.2 54 (hall 54 (by decide))
        rcases HL.out with ⟨rfl, _⟩ | ⟨rfl, _⟩
        all_goals exact this
      have HB := hid_of hR.1
      clear hR hall
      simp only [putAll, g54] at ha'
      subst ha'
      go_frame
      have HL1 : Hid (Law1 w gt ct ts gb a b c ad len cb gs A B C wn) := HB.out.1
      have HX : Hid (IsTree wn (.slice (some ⟨gx, 0, none⟩) 5 cx) xs) := HB.out.2
      clear HB HL l
      go_wp2_with fail
      have C5 := drop5 gx cx xs k wn HX.out
      obtain ⟨ys, hys⟩ : ∃ x, x = dropOf xs k := ⟨_, rfl⟩
      obtain ⟨dk, hdk⟩ : ∃ x, x = dropOk xs k := ⟨_, rfl⟩
      rw [← hys, ← hdk] at C5 HSP
      clear hys hdk
      refine C5.mono ?_
      rintro e w5 ⟨gy, cy, rfl, hy, hb⟩
      clear C5
      have HY : Hid (IsTree w5 (.slice (some ⟨gy, 0, none⟩) 5 cy) ys) := hy
      have HL2 := hid_of (HL1.out.on hb)
      clear HL1 hy hb HX
      have HL1 := HL2
      clear HL2
      dsimp only
      repeat (first | (with_reducible refine halt_region (id := 14) ?_) | go_values | go_skip | go_guarded | go_step | go_upon | go_back)
      unfold Halt0
      obtain ⟨l, HL⟩ : ∃ l, Hid ((l = [.bool true, .bool true, .bool true, .bool false, .bool false, .slice (some ⟨gy, 0, none⟩) 5 cy, .slice (some ⟨gt, 0, none⟩) 5 ct, .bool true, .bool false, .bool false, .bool false] ∧ o = true ∧ dk = true ∧ Hid (ys = ts)) ∨ (l = [.bool false, .bool false, undef, undef, undef, undef, undef, undef, undef, undef, .bool false] ∧ o = false)) := by
        rcases HSP.out with ⟨h1, h2, h3, h4, h5, h6, h7, h8⟩ | ⟨h1, h2⟩
        · exact ⟨_, .inl ⟨rfl, h1, h7, h8⟩⟩
        · exact ⟨_, .inr ⟨rfl, h1⟩⟩
      refine wp_region_wholeL (by kernel_rfl) (by kernel_rfl) (by kernel_rfl) (Flat (fun wz => Law1 w gt ct ts gb a b c ad len cb gs A B C wz ∧ IsTree wz (.slice (some ⟨gy, 0, none⟩) 5 cy) ys) (gVals l)) (flat_start ⟨HL1.out, HY.out⟩) ?_ ?_
      · refine ⟨?_, ?_, ?_, ?_, ?_, ?_, ?_, ?_, ?_, ?_, ?_, trivial⟩
        · intro b0 us wz L hslot hoth hLi hR hcl hdo K hK
          rcases HL.out with ⟨rfl, rfl, rfl, hf⟩ | ⟨rfl, rfl⟩
          · have s12 : b0.tmps.getD 12 undef = .bool true := hoth 12 (by rfl)
            clear hslot hoth hdo hcl hLi
            refine guard_none (by rfl) ?_
            go_simp
            exact hK _ _ (flat_mark (hR.1) (fun _ _ h => h) hR.2 rfl)
          · have s12 : b0.tmps.getD 12 undef = .bool false := hoth 12 (by rfl)
            clear hslot hoth hdo hcl hLi
            refine guard_none (by rfl) ?_
            go_simp
            exact hK _ _ (flat_mark (hR.1) (fun _ _ h => h) hR.2 rfl)
        · intro b0 us wz L hslot hoth hLi hR hcl hdo K hK
          rcases HL.out with ⟨rfl, rfl, rfl, hf⟩ | ⟨rfl, rfl⟩
          · have s126 : b0.tmps.getD 126 undef = .bool true := (hslot 0 126 (by rfl)).trans (hR.2 0 (done_at hdo 0 (by rfl)))
            clear hslot hoth hdo hcl hLi
            refine guard_none (by rfl) ?_
            go_simp
            exact hK _ _ (flat_mark (hR.1) (fun _ _ h => h) hR.2 rfl)
          · have s126 : b0.tmps.getD 126 undef = .bool false := (hslot 0 126 (by rfl)).trans (hR.2 0 (done_at hdo 0 (by rfl)))
            clear hslot hoth hdo hcl hLi
            refine guard_none (by rfl) ?_
            go_simp
            exact hK _ _ (flat_mark (hR.1) (fun _ _ h => h) hR.2 rfl)
        · intro b0 us wz L hslot hoth hLi hR hcl hdo K hK
          rcases HL.out with ⟨rfl, rfl, rfl, hf⟩ | ⟨rfl, rfl⟩
          · have gg : us 1 = .bool true := hR.2 1 (done_at hdo 1 (by rfl))
            have s14 : b0.tmps.getD 14 undef = .bool true := hoth 14 (by rfl)
            clear hslot hoth hdo hcl hLi
            refine guard_on (j := 1) (want := true) (d := 127) (by rfl) (by rfl) gg ?_
            go_simp
            exact hK _ _ (flat_mark (hR.1) (fun _ _ h => h) hR.2 rfl)
          · have gg : us 1 = .bool false := hR.2 1 (done_at hdo 1 (by rfl))
            refine guard_off (j := 1) (want := true) (d := 127) (by rfl) (by rfl) gg (by rfl) ?_
            exact hK undef _ (flat_mark (hR.1) (fun _ _ h => h) hR.2 rfl)
        · intro b0 us wz L hslot hoth hLi hR hcl hdo K hK
          rcases HL.out with ⟨rfl, rfl, rfl, hf⟩ | ⟨rfl, rfl⟩
          · have gg : us 1 = .bool true := hR.2 1 (done_at hdo 1 (by rfl))
            have s128 : b0.tmps.getD 128 undef = .bool true := (hslot 2 128 (by rfl)).trans (hR.2 2 (done_at hdo 2 (by rfl)))
            clear hslot hoth hdo hcl hLi
            refine guard_on (j := 1) (want := true) (d := 127) (by rfl) (by rfl) gg ?_
            go_simp
            exact hK _ _ (flat_mark (hR.1) (fun _ _ h => h) hR.2 rfl)
          · have gg : us 1 = .bool false := hR.2 1 (done_at hdo 1 (by rfl))
            refine guard_off (j := 1) (want := true) (d := 127) (by rfl) (by rfl) gg (by rfl) ?_
            exact hK undef _ (flat_mark (hR.1) (fun _ _ h => h) hR.2 rfl)
        · intro b0 us wz L hslot hoth hLi hR hcl hdo K hK
          rcases HL.out with ⟨rfl, rfl, rfl, hf⟩ | ⟨rfl, rfl⟩
          · have gg : us 1 = .bool true := hR.2 1 (done_at hdo 1 (by rfl))
            have s129 : b0.tmps.getD 129 undef = .bool false := (hslot 3 129 (by rfl)).trans (hR.2 3 (done_at hdo 3 (by rfl)))
            clear hslot hoth hdo hcl hLi
            refine guard_on (j := 1) (want := true) (d := 127) (by rfl) (by rfl) gg ?_
            go_simp
            exact hK _ _ (flat_mark (hR.1) (fun _ _ h => h) hR.2 rfl)
          · have gg : us 1 = .bool false := hR.2 1 (done_at hdo 1 (by rfl))
            refine guard_off (j := 1) (want := true) (d := 127) (by rfl) (by rfl) gg (by rfl) ?_
            exact hK undef _ (flat_mark (hR.1) (fun _ _ h => h) hR.2 rfl)
        · intro b0 us wz L hslot hoth hLi hR hcl hdo K hK
          rcases HL.out with ⟨rfl, rfl, rfl, hf⟩ | ⟨rfl, rfl⟩
          · have gg : us 4 = .bool false := hR.2 4 (done_at hdo 4 (by rfl))
            have s13 : b0.tmps.getD 13 undef = .slice (some ⟨gy, 0, none⟩) 5 cy := hoth 13 (by rfl)
            clear hslot hoth hdo hcl hLi
            refine guard_on (j := 4) (want := false) (d := 130) (by rfl) (by rfl) gg ?_
            go_simp
            exact hK _ _ (flat_mark (hR.1) (fun _ _ h => h) hR.2 rfl)
          · have gg : us 4 = undef := hR.2 4 (done_at hdo 4 (by rfl))
            refine guard_und (j := 4) (want := false) (d := 130) (by rfl) (by rfl) gg ?_
            exact hK undef _ (flat_mark (hR.1) (fun _ _ h => h) hR.2 rfl)
        · intro b0 us wz L hslot hoth hLi hR hcl hdo K hK
          rcases HL.out with ⟨rfl, rfl, rfl, hf⟩ | ⟨rfl, rfl⟩
          · have gg : us 4 = .bool false := hR.2 4 (done_at hdo 4 (by rfl))
            have s3 : b0.tmps.getD 3 undef = .slice (some ⟨gt, 0, none⟩) 5 ct := hoth 3 (by rfl)
            clear hslot hoth hdo hcl hLi
            refine guard_on (j := 4) (want := false) (d := 130) (by rfl) (by rfl) gg ?_
            go_simp
            exact hK _ _ (flat_mark (hR.1) (fun _ _ h => h) hR.2 rfl)
          · have gg : us 4 = undef := hR.2 4 (done_at hdo 4 (by rfl))
            refine guard_und (j := 4) (want := false) (d := 130) (by rfl) (by rfl) gg ?_
            exact hK undef _ (flat_mark (hR.1) (fun _ _ h => h) hR.2 rfl)
        · intro b0 us wz L hslot hoth hLi hR hcl hdo K hK
          rcases HL.out with ⟨rfl, rfl, rfl, hf⟩ | ⟨rfl, rfl⟩
          · have gg : us 4 = .bool false := hR.2 4 (done_at hdo 4 (by rfl))
            have s131 : b0.tmps.getD 131 undef = .slice (some ⟨gy, 0, none⟩) 5 cy := (hslot 5 131 (by rfl)).trans (hR.2 5 (done_at hdo 5 (by rfl)))
            have s132 : b0.tmps.getD 132 undef = .slice (some ⟨gt, 0, none⟩) 5 ct := (hslot 6 132 (by rfl)).trans (hR.2 6 (done_at hdo 6 (by rfl)))
            have HXT := hR.1.2
            rw [hf.out] at HXT
            clear hslot hoth hdo hcl hLi
            refine guard_on (j := 4) (want := false) (d := 130) (by rfl) (by rfl) gg ?_
            go_simp
            refine (same5 HXT hR.1.1.o.t).mono ?_
            rintro e w' ⟨rfl, hb⟩
            exact hK _ _ (flat_mark ⟨hR.1.1.on hb, hR.1.2.on hb⟩ (fun _ _ h => h) hR.2 rfl)
          · have gg : us 4 = undef := hR.2 4 (done_at hdo 4 (by rfl))
            refine guard_und (j := 4) (want := false) (d := 130) (by rfl) (by rfl) gg ?_
            exact hK undef _ (flat_mark (hR.1) (fun _ _ h => h) hR.2 rfl)
        · intro b0 us wz L hslot hoth hLi hR hcl hdo K hK
          rcases HL.out with ⟨rfl, rfl, rfl, hf⟩ | ⟨rfl, rfl⟩
          · have gg : us 4 = .bool false := hR.2 4 (done_at hdo 4 (by rfl))
            have s133 : b0.tmps.getD 133 undef = .bool true := (hslot 7 133 (by rfl)).trans (hR.2 7 (done_at hdo 7 (by rfl)))
            clear hslot hoth hdo hcl hLi
            refine guard_on (j := 4) (want := false) (d := 130) (by rfl) (by rfl) gg ?_
            go_simp
            exact hK _ _ (flat_mark (hR.1) (fun _ _ h => h) hR.2 rfl)
          · have gg : us 4 = undef := hR.2 4 (done_at hdo 4 (by rfl))
            refine guard_und (j := 4) (want := false) (d := 130) (by rfl) (by rfl) gg ?_
            exact hK undef _ (flat_mark (hR.1) (fun _ _ h => h) hR.2 rfl)
        · intro b0 us wz L hslot hoth hLi hR hcl hdo K hK
          rcases HL.out with ⟨rfl, rfl, rfl, hf⟩ | ⟨rfl, rfl⟩
          · have gg : us 1 = .bool true := hR.2 1 (done_at hdo 1 (by rfl))
            have s130 : b0.tmps.getD 130 undef = .bool false := (hslot 4 130 (by rfl)).trans (hR.2 4 (done_at hdo 4 (by rfl)))
            have s134 : b0.tmps.getD 134 undef = .bool false := (hslot 8 134 (by rfl)).trans (hR.2 8 (done_at hdo 8 (by rfl)))
            clear hslot hoth hdo hcl hLi
            refine guard_on (j := 1) (want := true) (d := 127) (by rfl) (by rfl) gg ?_
            go_simp
            exact hK _ _ (flat_mark (hR.1) (fun _ _ h => h) hR.2 rfl)
          · have gg : us 1 = .bool false := hR.2 1 (done_at hdo 1 (by rfl))
            refine guard_off (j := 1) (want := true) (d := 127) (by rfl) (by rfl) gg (by rfl) ?_
            exact hK undef _ (flat_mark (hR.1) (fun _ _ h => h) hR.2 rfl)
        · intro b0 us wz L hslot hoth hLi hR hcl hdo K hK
          rcases HL.out with ⟨rfl, rfl, rfl, hf⟩ | ⟨rfl, rfl⟩
          · have s127 : b0.tmps.getD 127 undef = .bool true := (hslot 1 127 (by rfl)).trans (hR.2 1 (done_at hdo 1 (by rfl)))
            have s135 : b0.tmps.getD 135 undef = .bool false := (hslot 9 135 (by rfl)).trans (hR.2 9 (done_at hdo 9 (by rfl)))
            clear hslot hoth hdo hcl hLi
            refine guard_none (by rfl) ?_
            go_simp
            exact hK _ _ (flat_mark (hR.1) (fun _ _ h => h) hR.2 rfl)
          · have s127 : b0.tmps.getD 127 undef = .bool false := (hslot 1 127 (by rfl)).trans (hR.2 1 (done_at hdo 1 (by rfl)))
            have s135 : b0.tmps.getD 135 undef = undef := (hslot 9 135 (by rfl)).trans (hR.2 9 (done_at hdo 9 (by rfl)))
            clear hslot hoth hdo hcl hLi
            refine guard_none (by rfl) ?_
            go_simp
            exact hK _ _ (flat_mark (hR.1) (fun _ _ h => h) hR.2 rfl)
      · intro us wn L hall hR a' ha'
        have g10 : us 10 = .bool false := by
          have := hR.2 10 (hall 10 (by decide))
          rcases HL.out with ⟨rfl, _⟩ | ⟨rfl, _⟩
          all_goals exact this
        have HB := hid_of hR.1
        clear hR hall
        simp only [putAll, g10] at ha'
        subst ha'
        go_frame
        have HL1 : Hid (Law1 w gt ct ts gb a b c ad len cb gs A B C wn) := HB.out.1
        clear HB HL l HY HSP HSX
        have k0 := HL1.out.o.box.c0
        have k1 := HL1.out.o.box.c1
        have k2 := HL1.out.o.box.c2
        go_wp2_with fail
        have C6 := pay5 gt ct ts i a b c wn HL1.out.o.t HL1.out.o.sent
        have HPD : Hid _ := pay_told (ts := ts) (i := i) (a := a) (b := b) (c := c)
        obtain ⟨zs, hzs⟩ : ∃ x, x = payOf ts i a b c := ⟨_, rfl⟩
        obtain ⟨pd, hpd⟩ : ∃ x, x = payOk ts i a b c := ⟨_, rfl⟩
        rw [← hzs, ← hpd] at C6 HPD
        clear hzs hpd
        refine C6.mono ?_
        rintro e w6 ⟨gz, cz, rfl, hz, hb⟩
        clear C6 k0 k1 k2
        have HZ : Hid (IsTree w6 (.slice (some ⟨gz, 0, none⟩) 5 cz) zs) := hz
        have HL2 := hid_of (HL1.out.on hb)
        clear HL1 hz hb
        have k0 := HL2.out.o.box.c0
        have k1 := HL2.out.o.box.c1
        have k2 := HL2.out.o.box.c2
        go_wp2_with fail
        have C7 := back5 gz cz zs i a b c w6 HZ.out
        obtain ⟨us0, hus⟩ : ∃ x, x = backOf zs i a b c := ⟨_, rfl⟩
        obtain ⟨bk, hbk⟩ : ∃ x, x = backOk zs a b c := ⟨_, rfl⟩
        rw [← hus, ← hbk] at C7 HPD
        clear hus hbk
        refine C7.mono ?_
        rintro e w7 ⟨gu, cu, rfl, hu, hb⟩
        clear C7 k0 k1 k2
        have HU : Hid (IsTree w7 (.slice (some ⟨gu, 0, none⟩) 5 cu) us0) := hu
        have HZ7 := hid_of (HZ.out.on hb)
        have HL1 := hid_of (HL2.out.on hb)
        clear HL2 HZ hu hb
        have HZ := HZ7
        clear HZ7
        dsimp only
        repeat (first | (with_reducible refine halt_region (id := 18) ?_) | go_values | go_skip | go_guarded | go_step | go_upon | go_back)
        unfold Halt0
        obtain ⟨l, HL⟩ : ∃ l, Hid ((l = [.bool true, .bool true, .bool true, .bool false, .bool false, .slice (some ⟨gu, 0, none⟩) 5 cu, .slice (some ⟨gt, 0, none⟩) 5 ct, .bool true, .bool false, .bool false, .bool false, .slice (some ⟨gz, 0, none⟩) 5 cz, .bool true, .bool false, .bool false, .bool false, .bool false, .bool true, .bool false, .bool false, undef, undef, undef, undef, .bool false, .bool false] ∧ pd = true ∧ bk = true ∧ Hid (treeOk zs = true ∧ us0 = ts)) ∨ (l = [.bool false, .bool false, undef, undef, undef, undef, undef, undef, undef, undef, undef, undef, undef, undef, undef, .bool false, .bool false, .bool false, .bool true, .bool true, .slice (some ⟨gz, 0, none⟩) 5 cz, .slice (some ⟨gt, 0, none⟩) 5 ct, .bool true, .bool false, .bool false, .bool false] ∧ pd = false ∧ Hid (zs = ts))) := by
          rcases HPD.out with ⟨h1, h2, h3, h4⟩ | ⟨h1, h2⟩
          · exact ⟨_, .inl ⟨rfl, h1, h3, h2, h4⟩⟩
          · exact ⟨_, .inr ⟨rfl, h1, h2⟩⟩
        refine wp_region_wholeL (by kernel_rfl) (by kernel_rfl) (by kernel_rfl) (Flat (fun wz => Law1 w gt ct ts gb a b c ad len cb gs A B C wz ∧ IsTree wz (.slice (some ⟨gz, 0, none⟩) 5 cz) zs ∧ IsTree wz (.slice (some ⟨gu, 0, none⟩) 5 cu) us0) (gVals l)) (flat_start ⟨HL1.out, HZ.out, HU.out⟩) ?_ ?_
        · refine ⟨?_, ?_, ?_, ?_, ?_, ?_, ?_, ?_, ?_, ?_, ?_, ?_, ?_, ?_, ?_, ?_, ?_, ?_, ?_, ?_, ?_, ?_, ?_, ?_, ?_, ?_, trivial⟩
          · intro b0 us wz L hslot hoth hLi hR hcl hdo K hK
            rcases HL.out with ⟨rfl, rfl, rfl, hf⟩ | ⟨rfl, rfl, hf⟩
            · have s16 : b0.tmps.getD 16 undef = .bool true := hoth 16 (by rfl)
              clear hslot hoth hdo hcl hLi
              refine guard_none (by rfl) ?_
              go_simp
              exact hK _ _ (flat_mark (hR.1) (fun _ _ h => h) hR.2 rfl)
            · have s16 : b0.tmps.getD 16 undef = .bool false := hoth 16 (by rfl)
              clear hslot hoth hdo hcl hLi
              refine guard_none (by rfl) ?_
              go_simp
              exact hK _ _ (flat_mark (hR.1) (fun _ _ h => h) hR.2 rfl)
          · intro b0 us wz L hslot hoth hLi hR hcl hdo K hK
            rcases HL.out with ⟨rfl, rfl, rfl, hf⟩ | ⟨rfl, rfl, hf⟩
            · have s151 : b0.tmps.getD 151 undef = .bool true := (hslot 0 151 (by rfl)).trans (hR.2 0 (done_at hdo 0 (by rfl)))
              clear hslot hoth hdo hcl hLi
              refine guard_none (by rfl) ?_
              go_simp
              exact hK _ _ (flat_mark (hR.1) (fun _ _ h => h) hR.2 rfl)
            · have s151 : b0.tmps.getD 151 undef = .bool false := (hslot 0 151 (by rfl)).trans (hR.2 0 (done_at hdo 0 (by rfl)))
              clear hslot hoth hdo hcl hLi
              refine guard_none (by rfl) ?_
              go_simp
              exact hK _ _ (flat_mark (hR.1) (fun _ _ h => h) hR.2 rfl)
          · intro b0 us wz L hslot hoth hLi hR hcl hdo K hK
            rcases HL.out with ⟨rfl, rfl, rfl, hf⟩ | ⟨rfl, rfl, hf⟩
            · have gg : us 1 = .bool true := hR.2 1 (done_at hdo 1 (by rfl))
              have s18 : b0.tmps.getD 18 undef = .bool true := hoth 18 (by rfl)
              clear hslot hoth hdo hcl hLi
              refine guard_on (j := 1) (want := true) (d := 152) (by rfl) (by rfl) gg ?_
              go_simp
              exact hK _ _ (flat_mark (hR.1) (fun _ _ h => h) hR.2 rfl)
            · have gg : us 1 = .bool false := hR.2 1 (done_at hdo 1 (by rfl))
              refine guard_off (j := 1) (want := true) (d := 152) (by rfl) (by rfl) gg (by rfl) ?_
              exact hK undef _ (flat_mark (hR.1) (fun _ _ h => h) hR.2 rfl)
          · intro b0 us wz L hslot hoth hLi hR hcl hdo K hK
            rcases HL.out with ⟨rfl, rfl, rfl, hf⟩ | ⟨rfl, rfl, hf⟩
            · have gg : us 1 = .bool true := hR.2 1 (done_at hdo 1 (by rfl))
              have s153 : b0.tmps.getD 153 undef = .bool true := (hslot 2 153 (by rfl)).trans (hR.2 2 (done_at hdo 2 (by rfl)))
              clear hslot hoth hdo hcl hLi
              refine guard_on (j := 1) (want := true) (d := 152) (by rfl) (by rfl) gg ?_
              go_simp
              exact hK _ _ (flat_mark (hR.1) (fun _ _ h => h) hR.2 rfl)
            · have gg : us 1 = .bool false := hR.2 1 (done_at hdo 1 (by rfl))
              refine guard_off (j := 1) (want := true) (d := 152) (by rfl) (by rfl) gg (by rfl) ?_
              exact hK undef _ (flat_mark (hR.1) (fun _ _ h => h) hR.2 rfl)
          · intro b0 us wz L hslot hoth hLi hR hcl hdo K hK
            rcases HL.out with ⟨rfl, rfl, rfl, hf⟩ | ⟨rfl, rfl, hf⟩
            · have gg : us 1 = .bool true := hR.2 1 (done_at hdo 1 (by rfl))
              have s154 : b0.tmps.getD 154 undef = .bool false := (hslot 3 154 (by rfl)).trans (hR.2 3 (done_at hdo 3 (by rfl)))
              clear hslot hoth hdo hcl hLi
              refine guard_on (j := 1) (want := true) (d := 152) (by rfl) (by rfl) gg ?_
              go_simp
              exact hK _ _ (flat_mark (hR.1) (fun _ _ h => h) hR.2 rfl)
            · have gg : us 1 = .bool false := hR.2 1 (done_at hdo 1 (by rfl))
              refine guard_off (j := 1) (want := true) (d := 152) (by rfl) (by rfl) gg (by rfl) ?_
              exact hK undef _ (flat_mark (hR.1) (fun _ _ h => h) hR.2 rfl)
          · intro b0 us wz L hslot hoth hLi hR hcl hdo K hK
            rcases HL.out with ⟨rfl, rfl, rfl, hf⟩ | ⟨rfl, rfl, hf⟩
            · have gg : us 4 = .bool false := hR.2 4 (done_at hdo 4 (by rfl))
              have s17 : b0.tmps.getD 17 undef = .slice (some ⟨gu, 0, none⟩) 5 cu := hoth 17 (by rfl)
              clear hslot hoth hdo hcl hLi
              refine guard_on (j := 4) (want := false) (d := 155) (by rfl) (by rfl) gg ?_
              go_simp
              exact hK _ _ (flat_mark (hR.1) (fun _ _ h => h) hR.2 rfl)
            · have gg : us 4 = undef := hR.2 4 (done_at hdo 4 (by rfl))
              refine guard_und (j := 4) (want := false) (d := 155) (by rfl) (by rfl) gg ?_
              exact hK undef _ (flat_mark (hR.1) (fun _ _ h => h) hR.2 rfl)
          · intro b0 us wz L hslot hoth hLi hR hcl hdo K hK
            rcases HL.out with ⟨rfl, rfl, rfl, hf⟩ | ⟨rfl, rfl, hf⟩
            · have gg : us 4 = .bool false := hR.2 4 (done_at hdo 4 (by rfl))
              have s3 : b0.tmps.getD 3 undef = .slice (some ⟨gt, 0, none⟩) 5 ct := hoth 3 (by rfl)
              clear hslot hoth hdo hcl hLi
              refine guard_on (j := 4) (want := false) (d := 155) (by rfl) (by rfl) gg ?_
              go_simp
              exact hK _ _ (flat_mark (hR.1) (fun _ _ h => h) hR.2 rfl)
            · have gg : us 4 = undef := hR.2 4 (done_at hdo 4 (by rfl))
              refine guard_und (j := 4) (want := false) (d := 155) (by rfl) (by rfl) gg ?_
              exact hK undef _ (flat_mark (hR.1) (fun _ _ h => h) hR.2 rfl)
          · intro b0 us wz L hslot hoth hLi hR hcl hdo K hK
            rcases HL.out with ⟨rfl, rfl, rfl, hf⟩ | ⟨rfl, rfl, hf⟩
            · have gg : us 4 = .bool false := hR.2 4 (done_at hdo 4 (by rfl))
              have s156 : b0.tmps.getD 156 undef = .slice (some ⟨gu, 0, none⟩) 5 cu := (hslot 5 156 (by rfl)).trans (hR.2 5 (done_at hdo 5 (by rfl)))
              have s157 : b0.tmps.getD 157 undef = .slice (some ⟨gt, 0, none⟩) 5 ct := (hslot 6 157 (by rfl)).trans (hR.2 6 (done_at hdo 6 (by rfl)))
              have HXT := hR.1.2.2
              rw [hf.out.2] at HXT
              clear hslot hoth hdo hcl hLi
              refine guard_on (j := 4) (want := false) (d := 155) (by rfl) (by rfl) gg ?_
              go_simp
              refine (same5 HXT hR.1.1.o.t).mono ?_
              rintro e w' ⟨rfl, hb⟩
              exact hK _ _ (flat_mark ⟨hR.1.1.on hb, hR.1.2.1.on hb, hR.1.2.2.on hb⟩ (fun _ _ h => h) hR.2 rfl)
            · have gg : us 4 = undef := hR.2 4 (done_at hdo 4 (by rfl))
              refine guard_und (j := 4) (want := false) (d := 155) (by rfl) (by rfl) gg ?_
              exact hK undef _ (flat_mark (hR.1) (fun _ _ h => h) hR.2 rfl)
          · intro b0 us wz L hslot hoth hLi hR hcl hdo K hK
            rcases HL.out with ⟨rfl, rfl, rfl, hf⟩ | ⟨rfl, rfl, hf⟩
            · have gg : us 4 = .bool false := hR.2 4 (done_at hdo 4 (by rfl))
              have s158 : b0.tmps.getD 158 undef = .bool true := (hslot 7 158 (by rfl)).trans (hR.2 7 (done_at hdo 7 (by rfl)))
              clear hslot hoth hdo hcl hLi
              refine guard_on (j := 4) (want := false) (d := 155) (by rfl) (by rfl) gg ?_
              go_simp
              exact hK _ _ (flat_mark (hR.1) (fun _ _ h => h) hR.2 rfl)
            · have gg : us 4 = undef := hR.2 4 (done_at hdo 4 (by rfl))
              refine guard_und (j := 4) (want := false) (d := 155) (by rfl) (by rfl) gg ?_
              exact hK undef _ (flat_mark (hR.1) (fun _ _ h => h) hR.2 rfl)
          · intro b0 us wz L hslot hoth hLi hR hcl hdo K hK
            rcases HL.out with ⟨rfl, rfl, rfl, hf⟩ | ⟨rfl, rfl, hf⟩
            · have gg : us 1 = .bool true := hR.2 1 (done_at hdo 1 (by rfl))
              have s155 : b0.tmps.getD 155 undef = .bool false := (hslot 4 155 (by rfl)).trans (hR.2 4 (done_at hdo 4 (by rfl)))
              have s159 : b0.tmps.getD 159 undef = .bool false := (hslot 8 159 (by rfl)).trans (hR.2 8 (done_at hdo 8 (by rfl)))
              clear hslot hoth hdo hcl hLi
              refine guard_on (j := 1) (want := true) (d := 152) (by rfl) (by rfl) gg ?_
              go_simp
              exact hK _ _ (flat_mark (hR.1) (fun _ _ h => h) hR.2 rfl)
            · have gg : us 1 = .bool false := hR.2 1 (done_at hdo 1 (by rfl))
              refine guard_off (j := 1) (want := true) (d := 152) (by rfl) (by rfl) gg (by rfl) ?_
              exact hK undef _ (flat_mark (hR.1) (fun _ _ h => h) hR.2 rfl)
          · intro b0 us wz L hslot hoth hLi hR hcl hdo K hK
            rcases HL.out with ⟨rfl, rfl, rfl, hf⟩ | ⟨rfl, rfl, hf⟩
            · have gg : us 1 = .bool true := hR.2 1 (done_at hdo 1 (by rfl))
              have s160 : b0.tmps.getD 160 undef = .bool false := (hslot 9 160 (by rfl)).trans (hR.2 9 (done_at hdo 9 (by rfl)))
              clear hslot hoth hdo hcl hLi
              refine guard_on (j := 1) (want := true) (d := 152) (by rfl) (by rfl) gg ?_
              go_simp
              exact hK _ _ (flat_mark (hR.1) (fun _ _ h => h) hR.2 rfl)
            · have gg : us 1 = .bool false := hR.2 1 (done_at hdo 1 (by rfl))
              refine guard_off (j := 1) (want := true) (d := 152) (by rfl) (by rfl) gg (by rfl) ?_
              exact hK undef _ (flat_mark (hR.1) (fun _ _ h => h) hR.2 rfl)
          · intro b0 us wz L hslot hoth hLi hR hcl hdo K hK
            rcases HL.out with ⟨rfl, rfl, rfl, hf⟩ | ⟨rfl, rfl, hf⟩
            · have gg : us 10 = .bool false := hR.2 10 (done_at hdo 10 (by rfl))
              have s15 : b0.tmps.getD 15 undef = .slice (some ⟨gz, 0, none⟩) 5 cz := hoth 15 (by rfl)
              clear hslot hoth hdo hcl hLi
              refine guard_on (j := 10) (want := false) (d := 161) (by rfl) (by rfl) gg ?_
              go_simp
              exact hK _ _ (flat_mark (hR.1) (fun _ _ h => h) hR.2 rfl)
            · have gg : us 10 = undef := hR.2 10 (done_at hdo 10 (by rfl))
              refine guard_und (j := 10) (want := false) (d := 161) (by rfl) (by rfl) gg ?_
              exact hK undef _ (flat_mark (hR.1) (fun _ _ h => h) hR.2 rfl)
          · intro b0 us wz L hslot hoth hLi hR hcl hdo K hK
            rcases HL.out with ⟨rfl, rfl, rfl, hf⟩ | ⟨rfl, rfl, hf⟩
            · have gg : us 10 = .bool false := hR.2 10 (done_at hdo 10 (by rfl))
              have s162 : b0.tmps.getD 162 undef = .slice (some ⟨gz, 0, none⟩) 5 cz := (hslot 11 162 (by rfl)).trans (hR.2 11 (done_at hdo 11 (by rfl)))
              clear hslot hoth hdo hcl hLi
              refine guard_on (j := 10) (want := false) (d := 161) (by rfl) (by rfl) gg ?_
              go_simp
              refine (specOk5 hR.1.2.1 hf.out.1).mono ?_
              rintro e w' ⟨rfl, hb⟩
              exact hK _ _ (flat_mark ⟨hR.1.1.on hb, hR.1.2.1.on hb, hR.1.2.2.on hb⟩ (fun _ _ h => h) hR.2 rfl)
            · have gg : us 10 = undef := hR.2 10 (done_at hdo 10 (by rfl))
              refine guard_und (j := 10) (want := false) (d := 161) (by rfl) (by rfl) gg ?_
              exact hK undef _ (flat_mark (hR.1) (fun _ _ h => h) hR.2 rfl)
          · intro b0 us wz L hslot hoth hLi hR hcl hdo K hK
            rcases HL.out with ⟨rfl, rfl, rfl, hf⟩ | ⟨rfl, rfl, hf⟩
            · have gg : us 10 = .bool false := hR.2 10 (done_at hdo 10 (by rfl))
              have s163 : b0.tmps.getD 163 undef = .bool true := (hslot 12 163 (by rfl)).trans (hR.2 12 (done_at hdo 12 (by rfl)))
              clear hslot hoth hdo hcl hLi
              refine guard_on (j := 10) (want := false) (d := 161) (by rfl) (by rfl) gg ?_
              go_simp
              exact hK _ _ (flat_mark (hR.1) (fun _ _ h => h) hR.2 rfl)
            · have gg : us 10 = undef := hR.2 10 (done_at hdo 10 (by rfl))
              refine guard_und (j := 10) (want := false) (d := 161) (by rfl) (by rfl) gg ?_
              exact hK undef _ (flat_mark (hR.1) (fun _ _ h => h) hR.2 rfl)
          · intro b0 us wz L hslot hoth hLi hR hcl hdo K hK
            rcases HL.out with ⟨rfl, rfl, rfl, hf⟩ | ⟨rfl, rfl, hf⟩
            · have gg : us 1 = .bool true := hR.2 1 (done_at hdo 1 (by rfl))
              have s161 : b0.tmps.getD 161 undef = .bool false := (hslot 10 161 (by rfl)).trans (hR.2 10 (done_at hdo 10 (by rfl)))
              have s164 : b0.tmps.getD 164 undef = .bool false := (hslot 13 164 (by rfl)).trans (hR.2 13 (done_at hdo 13 (by rfl)))
              clear hslot hoth hdo hcl hLi
              refine guard_on (j := 1) (want := true) (d := 152) (by rfl) (by rfl) gg ?_
              go_simp
              exact hK _ _ (flat_mark (hR.1) (fun _ _ h => h) hR.2 rfl)
            · have gg : us 1 = .bool false := hR.2 1 (done_at hdo 1 (by rfl))
              refine guard_off (j := 1) (want := true) (d := 152) (by rfl) (by rfl) gg (by rfl) ?_
              exact hK undef _ (flat_mark (hR.1) (fun _ _ h => h) hR.2 rfl)
          · intro b0 us wz L hslot hoth hLi hR hcl hdo K hK
            rcases HL.out with ⟨rfl, rfl, rfl, hf⟩ | ⟨rfl, rfl, hf⟩
            · have s152 : b0.tmps.getD 152 undef = .bool true := (hslot 1 152 (by rfl)).trans (hR.2 1 (done_at hdo 1 (by rfl)))
              have s165 : b0.tmps.getD 165 undef = .bool false := (hslot 14 165 (by rfl)).trans (hR.2 14 (done_at hdo 14 (by rfl)))
              clear hslot hoth hdo hcl hLi
              refine guard_none (by rfl) ?_
              go_simp
              exact hK _ _ (flat_mark (hR.1) (fun _ _ h => h) hR.2 rfl)
            · have s152 : b0.tmps.getD 152 undef = .bool false := (hslot 1 152 (by rfl)).trans (hR.2 1 (done_at hdo 1 (by rfl)))
              have s165 : b0.tmps.getD 165 undef = undef := (hslot 14 165 (by rfl)).trans (hR.2 14 (done_at hdo 14 (by rfl)))
              clear hslot hoth hdo hcl hLi
              refine guard_none (by rfl) ?_
              go_simp
              exact hK _ _ (flat_mark (hR.1) (fun _ _ h => h) hR.2 rfl)
          · intro b0 us wz L hslot hoth hLi hR hcl hdo K hK
            rcases HL.out with ⟨rfl, rfl, rfl, hf⟩ | ⟨rfl, rfl, hf⟩
            · have s166 : b0.tmps.getD 166 undef = .bool false := (hslot 15 166 (by rfl)).trans (hR.2 15 (done_at hdo 15 (by rfl)))
              clear hslot hoth hdo hcl hLi
              refine guard_none (by rfl) ?_
              go_simp
              exact hK _ _ (flat_mark (hR.1) (fun _ _ h => h) hR.2 rfl)
            · have s166 : b0.tmps.getD 166 undef = .bool false := (hslot 15 166 (by rfl)).trans (hR.2 15 (done_at hdo 15 (by rfl)))
              clear hslot hoth hdo hcl hLi
              refine guard_none (by rfl) ?_
              go_simp
              exact hK _ _ (flat_mark (hR.1) (fun _ _ h => h) hR.2 rfl)
          · intro b0 us wz L hslot hoth hLi hR hcl hdo K hK
            rcases HL.out with ⟨rfl, rfl, rfl, hf⟩ | ⟨rfl, rfl, hf⟩
            · have gg : us 16 = .bool false := hR.2 16 (done_at hdo 16 (by rfl))
              have s16 : b0.tmps.getD 16 undef = .bool true := hoth 16 (by rfl)
              clear hslot hoth hdo hcl hLi
              refine guard_on (j := 16) (want := false) (d := 167) (by rfl) (by rfl) gg ?_
              go_simp
              exact hK _ _ (flat_mark (hR.1) (fun _ _ h => h) hR.2 rfl)
            · have gg : us 16 = .bool false := hR.2 16 (done_at hdo 16 (by rfl))
              have s16 : b0.tmps.getD 16 undef = .bool false := hoth 16 (by rfl)
              clear hslot hoth hdo hcl hLi
              refine guard_on (j := 16) (want := false) (d := 167) (by rfl) (by rfl) gg ?_
              go_simp
              exact hK _ _ (flat_mark (hR.1) (fun _ _ h => h) hR.2 rfl)
          · intro b0 us wz L hslot hoth hLi hR hcl hdo K hK
            rcases HL.out with ⟨rfl, rfl, rfl, hf⟩ | ⟨rfl, rfl, hf⟩
            · have gg : us 16 = .bool false := hR.2 16 (done_at hdo 16 (by rfl))
              have s168 : b0.tmps.getD 168 undef = .bool true := (hslot 17 168 (by rfl)).trans (hR.2 17 (done_at hdo 17 (by rfl)))
              clear hslot hoth hdo hcl hLi
              refine guard_on (j := 16) (want := false) (d := 167) (by rfl) (by rfl) gg ?_
              go_simp
              exact hK _ _ (flat_mark (hR.1) (fun _ _ h => h) hR.2 rfl)
            · have gg : us 16 = .bool false := hR.2 16 (done_at hdo 16 (by rfl))
              have s168 : b0.tmps.getD 168 undef = .bool false := (hslot 17 168 (by rfl)).trans (hR.2 17 (done_at hdo 17 (by rfl)))
              clear hslot hoth hdo hcl hLi
              refine guard_on (j := 16) (want := false) (d := 167) (by rfl) (by rfl) gg ?_
              go_simp
              exact hK _ _ (flat_mark (hR.1) (fun _ _ h => h) hR.2 rfl)
          · intro b0 us wz L hslot hoth hLi hR hcl hdo K hK
            rcases HL.out with ⟨rfl, rfl, rfl, hf⟩ | ⟨rfl, rfl, hf⟩
            · have gg : us 16 = .bool false := hR.2 16 (done_at hdo 16 (by rfl))
              have s169 : b0.tmps.getD 169 undef = .bool false := (hslot 18 169 (by rfl)).trans (hR.2 18 (done_at hdo 18 (by rfl)))
              clear hslot hoth hdo hcl hLi
              refine guard_on (j := 16) (want := false) (d := 167) (by rfl) (by rfl) gg ?_
              go_simp
              exact hK _ _ (flat_mark (hR.1) (fun _ _ h => h) hR.2 rfl)
            · have gg : us 16 = .bool false := hR.2 16 (done_at hdo 16 (by rfl))
              have s169 : b0.tmps.getD 169 undef = .bool true := (hslot 18 169 (by rfl)).trans (hR.2 18 (done_at hdo 18 (by rfl)))
              clear hslot hoth hdo hcl hLi
              refine guard_on (j := 16) (want := false) (d := 167) (by rfl) (by rfl) gg ?_
              go_simp
              exact hK _ _ (flat_mark (hR.1) (fun _ _ h => h) hR.2 rfl)
          · intro b0 us wz L hslot hoth hLi hR hcl hdo K hK
            rcases HL.out with ⟨rfl, rfl, rfl, hf⟩ | ⟨rfl, rfl, hf⟩
            · have gg : us 19 = .bool false := hR.2 19 (done_at hdo 19 (by rfl))
              refine guard_off (j := 19) (want := true) (d := 170) (by rfl) (by rfl) gg (by rfl) ?_
              exact hK undef _ (flat_mark (hR.1) (fun _ _ h => h) hR.2 rfl)
            · have gg : us 19 = .bool true := hR.2 19 (done_at hdo 19 (by rfl))
              have s15 : b0.tmps.getD 15 undef = .slice (some ⟨gz, 0, none⟩) 5 cz := hoth 15 (by rfl)
              clear hslot hoth hdo hcl hLi
              refine guard_on (j := 19) (want := true) (d := 170) (by rfl) (by rfl) gg ?_
              go_simp
              exact hK _ _ (flat_mark (hR.1) (fun _ _ h => h) hR.2 rfl)
          · intro b0 us wz L hslot hoth hLi hR hcl hdo K hK
            rcases HL.out with ⟨rfl, rfl, rfl, hf⟩ | ⟨rfl, rfl, hf⟩
            · have gg : us 19 = .bool false := hR.2 19 (done_at hdo 19 (by rfl))
              refine guard_off (j := 19) (want := true) (d := 170) (by rfl) (by rfl) gg (by rfl) ?_
              exact hK undef _ (flat_mark (hR.1) (fun _ _ h => h) hR.2 rfl)
            · have gg : us 19 = .bool true := hR.2 19 (done_at hdo 19 (by rfl))
              have s3 : b0.tmps.getD 3 undef = .slice (some ⟨gt, 0, none⟩) 5 ct := hoth 3 (by rfl)
              clear hslot hoth hdo hcl hLi
              refine guard_on (j := 19) (want := true) (d := 170) (by rfl) (by rfl) gg ?_
              go_simp
              exact hK _ _ (flat_mark (hR.1) (fun _ _ h => h) hR.2 rfl)
          · intro b0 us wz L hslot hoth hLi hR hcl hdo K hK
            rcases HL.out with ⟨rfl, rfl, rfl, hf⟩ | ⟨rfl, rfl, hf⟩
            · have gg : us 19 = .bool false := hR.2 19 (done_at hdo 19 (by rfl))
              refine guard_off (j := 19) (want := true) (d := 170) (by rfl) (by rfl) gg (by rfl) ?_
              exact hK undef _ (flat_mark (hR.1) (fun _ _ h => h) hR.2 rfl)
            · have gg : us 19 = .bool true := hR.2 19 (done_at hdo 19 (by rfl))
              have s171 : b0.tmps.getD 171 undef = .slice (some ⟨gz, 0, none⟩) 5 cz := (hslot 20 171 (by rfl)).trans (hR.2 20 (done_at hdo 20 (by rfl)))
              have s172 : b0.tmps.getD 172 undef = .slice (some ⟨gt, 0, none⟩) 5 ct := (hslot 21 172 (by rfl)).trans (hR.2 21 (done_at hdo 21 (by rfl)))
              have HXT := hR.1.2.1
              rw [hf.out] at HXT
              clear hslot hoth hdo hcl hLi
              refine guard_on (j := 19) (want := true) (d := 170) (by rfl) (by rfl) gg ?_
              go_simp
              refine (same5 HXT hR.1.1.o.t).mono ?_
              rintro e w' ⟨rfl, hb⟩
              exact hK _ _ (flat_mark ⟨hR.1.1.on hb, hR.1.2.1.on hb, hR.1.2.2.on hb⟩ (fun _ _ h => h) hR.2 rfl)
          · intro b0 us wz L hslot hoth hLi hR hcl hdo K hK
            rcases HL.out with ⟨rfl, rfl, rfl, hf⟩ | ⟨rfl, rfl, hf⟩
            · have gg : us 19 = .bool false := hR.2 19 (done_at hdo 19 (by rfl))
              refine guard_off (j := 19) (want := true) (d := 170) (by rfl) (by rfl) gg (by rfl) ?_
              exact hK undef _ (flat_mark (hR.1) (fun _ _ h => h) hR.2 rfl)
            · have gg : us 19 = .bool true := hR.2 19 (done_at hdo 19 (by rfl))
              have s173 : b0.tmps.getD 173 undef = .bool true := (hslot 22 173 (by rfl)).trans (hR.2 22 (done_at hdo 22 (by rfl)))
              clear hslot hoth hdo hcl hLi
              refine guard_on (j := 19) (want := true) (d := 170) (by rfl) (by rfl) gg ?_
              go_simp
              exact hK _ _ (flat_mark (hR.1) (fun _ _ h => h) hR.2 rfl)
          · intro b0 us wz L hslot hoth hLi hR hcl hdo K hK
            rcases HL.out with ⟨rfl, rfl, rfl, hf⟩ | ⟨rfl, rfl, hf⟩
            · have gg : us 16 = .bool false := hR.2 16 (done_at hdo 16 (by rfl))
              have s170 : b0.tmps.getD 170 undef = .bool false := (hslot 19 170 (by rfl)).trans (hR.2 19 (done_at hdo 19 (by rfl)))
              have s174 : b0.tmps.getD 174 undef = undef := (hslot 23 174 (by rfl)).trans (hR.2 23 (done_at hdo 23 (by rfl)))
              clear hslot hoth hdo hcl hLi
              refine guard_on (j := 16) (want := false) (d := 167) (by rfl) (by rfl) gg ?_
              go_simp
              exact hK _ _ (flat_mark (hR.1) (fun _ _ h => h) hR.2 rfl)
            · have gg : us 16 = .bool false := hR.2 16 (done_at hdo 16 (by rfl))
              have s170 : b0.tmps.getD 170 undef = .bool true := (hslot 19 170 (by rfl)).trans (hR.2 19 (done_at hdo 19 (by rfl)))
              have s174 : b0.tmps.getD 174 undef = .bool false := (hslot 23 174 (by rfl)).trans (hR.2 23 (done_at hdo 23 (by rfl)))
              clear hslot hoth hdo hcl hLi
              refine guard_on (j := 16) (want := false) (d := 167) (by rfl) (by rfl) gg ?_
              go_simp
              exact hK _ _ (flat_mark (hR.1) (fun _ _ h => h) hR.2 rfl)
          · intro b0 us wz L hslot hoth hLi hR hcl hdo K hK
            rcases HL.out with ⟨rfl, rfl, rfl, hf⟩ | ⟨rfl, rfl, hf⟩
            · have s167 : b0.tmps.getD 167 undef = .bool false := (hslot 16 167 (by rfl)).trans (hR.2 16 (done_at hdo 16 (by rfl)))
              have s175 : b0.tmps.getD 175 undef = .bool false := (hslot 24 175 (by rfl)).trans (hR.2 24 (done_at hdo 24 (by rfl)))
              clear hslot hoth hdo hcl hLi
              refine guard_none (by rfl) ?_
              go_simp
              exact hK _ _ (flat_mark (hR.1) (fun _ _ h => h) hR.2 rfl)
            · have s167 : b0.tmps.getD 167 undef = .bool false := (hslot 16 167 (by rfl)).trans (hR.2 16 (done_at hdo 16 (by rfl)))
              have s175 : b0.tmps.getD 175 undef = .bool false := (hslot 24 175 (by rfl)).trans (hR.2 24 (done_at hdo 24 (by rfl)))
              clear hslot hoth hdo hcl hLi
              refine guard_none (by rfl) ?_
              go_simp
              exact hK _ _ (flat_mark (hR.1) (fun _ _ h => h) hR.2 rfl)
        · intro us wn L hall hR a' ha'
          have g25 : us 25 = .bool false := by
            have := hR.2 25 (hall 25 (by decide))
            rcases HL.out with ⟨rfl, _⟩ | ⟨rfl, _⟩
            all_goals exact this
          have HB := hid_of hR.1
          clear hR hall
          simp only [putAll, g25] at ha'
          subst ha'
          go_frame
          have HL1 : Hid (Law1 w gt ct ts gb a b c ad len cb gs A B C wn) := HB.out.1
          clear HB HL l HZ HU HPD
          have CA := at_any wn ad len cap cb HL1.out.o.code
          go_wp2_with fail
          refine CA.mono ?_
          rintro e w8 ⟨n, rfl, hw8⟩
          subst hw8
          clear CA
          obtain ⟨j, hj⟩ : ∃ j, j = n % 5 := ⟨_, rfl⟩
          have hjn : ((n : Int) % 5) = (j : Int) := by rw [hj]; simp
          have hjt : ((n : Int).tmod 5) = (j : Int) := by rw [hj, Int.tmod_eq_emod_of_nonneg (by omega)]; simp
          have HJ5 : Hid (j < 5) := by rw [hj]; exact Nat.mod_lt _ (by omega)
          clear hj
          have k0 := HL1.out.o.box.c0
          have k1 := HL1.out.o.box.c1
          have k2 := HL1.out.o.box.c2
          go_wp2_with fail
          clear hjn hjt
          have C8 := give5 gt ct ts i (j : Int) a b c wn HL1.out.o.t HL1.out.o.sent
          have HSV : Hid (SameSum ts (giveOf ts i (j : Int) a b c)) := (give_told HOK.out).1
          have HGV : Hid (giveOk ts i (j : Int) a b c = false → giveOf ts i (j : Int) a b c = ts) := (give_told HOK.out).2
          obtain ⟨vs, hvs⟩ : ∃ x, x = giveOf ts i (j : Int) a b c := ⟨_, rfl⟩
          obtain ⟨gv0, hgv⟩ : ∃ x, x = giveOk ts i (j : Int) a b c := ⟨_, rfl⟩
          rw [← hvs] at C8 HSV HGV
          rw [← hgv] at C8 HGV
          clear hvs hgv
          refine C8.mono ?_
          rintro e w9 ⟨gv, cv, rfl, hv, hb⟩
          clear C8 k0 k1 k2
          have HV9 : Hid (IsTree w9 (.slice (some ⟨gv, 0, none⟩) 5 cv) vs) := hv
          have HL9 := hid_of (HL1.out.on hb)
          clear HL1 hv hb
          go_wp2_with fail
          have C9 := drop5 gt ct ts (j : Int) w9 HL9.out.o.t
          have HSW : Hid (SameSum ts (dropOf ts (j : Int))) := drop_told HOK.out
          obtain ⟨ws, hws⟩ : ∃ x, x = dropOf ts (j : Int) := ⟨_, rfl⟩
          obtain ⟨dd, hdd⟩ : ∃ x, x = dropOk ts (j : Int) := ⟨_, rfl⟩
          have HDD : Hid (dd = dropOk ts (j : Int)) := hdd
          rw [← hws] at C9 HSW
          rw [← hdd] at C9
          clear hws hdd
          refine C9.mono ?_
          rintro e wA ⟨gw, cw, rfl, hw, hb⟩
          clear C9
          have HWA : Hid (IsTree wA (.slice (some ⟨gw, 0, none⟩) 5 cw) ws) := hw
          have HVA := hid_of (HV9.out.on hb)
          have HLA := hid_of (HL9.out.on hb)
          clear HL9 HV9 hw hb
          go_wp2_with fail
          have CB := implAbove_any _ ts (j : Int) wA HLA.out.o.t (by have := isTree_len HLA.out.o.t; omega)
          obtain ⟨ups, hups⟩ : ∃ x, x = aboveOf ts (j : Int) := ⟨_, rfl⟩
          have HUE : Hid (ups = aboveOf ts (j : Int)) := hups
          rw [← hups] at CB
          clear hups
          refine CB.mono ?_
          rintro e wB ⟨v, rfl, hv, hb⟩
          clear CB
          obtain ⟨au, cu2, rfl, hpos, hups⟩ := upsAt_own hv
          have HUP : Hid (UpsAt wB au ups) := hups
          have HV := hid_of (HVA.out.on hb)
          have HW := hid_of (HWA.out.on hb)
          have HL1 := hid_of (HLA.out.on hb)
          have HPO : Hid (0 < ups.length → ∃ g, au = some ⟨g, 0, none⟩) := hpos
          clear HLA HVA HWA hv hb hups hpos
          obtain ⟨m, hm⟩ : ∃ m, m = ups.length := ⟨_, rfl⟩
          rw [← hm]
          have HM : Hid (m = ups.length) := hm
          clear hm
          go_wp2_with fail
          obtain ⟨n1, gu1, pj, HUPS⟩ : ∃ (n1 gu1 : Nat) (pj : Int), Hid ((dd = true ∧ m = n1 + 1 ∧ au = some ⟨gu1, 0, none⟩ ∧ Hid (j < 5 ∧ 0 < j ∧ (reAt ts j).live = true ∧ (reAt ts j).par = pj ∧ ups.length = n1 + 1 ∧ ups.getD 0 0 = pj ∧ ups.getD n1 0 = 0 ∧ n1 ≤ 4)) ∨ Hid (j < 5 ∧ 0 < j ∧ (reAt ts j).live = false) ∨ j = 0) := by
            by_cases h0 : j = 0
            · exact ⟨0, 0, 0, .inr (.inr h0)⟩
            · cases hl : (reAt ts j).live with
              | false => exact ⟨0, 0, 0, .inr (.inl ⟨HJ5.out, by omega, rfl⟩)⟩
              | true =>
                obtain ⟨h1, n1, h2, h3, h4⟩ := up_told HOK.out HJ5.out (by omega) hl
                rw [← HUE.out] at h2 h3 h4
                obtain ⟨g, hg⟩ := HPO.out (by omega)
                refine ⟨n1, g, _, .inl ⟨by rw [HDD.out, h1], by rw [HM.out, h2], hg, HJ5.out, by omega, rfl, rfl, h2, h3, h4, ?_⟩⟩
                have h5 := above_len ts j
                rw [← HUE.out] at h5
                omega
          clear HUE HPO HM HDD
          obtain ⟨l, HL⟩ : ∃ l, Hid ((l = [.int .i64 (j : Int), .bool true, .bool true, .slice (some ⟨gt, 0, none⟩) 5 ct, .int .i64 (j : Int), .pointer (some ⟨gt, j * 5, none⟩), .pointer (some ⟨gt, j * 5, none⟩), .bool true, .bool true, .bool true, .bool true, .bool false, .bool false, .slice (some ⟨gu1, 0, none⟩) (n1 + 1) cu2, .int .i64 ((n1 : Int) + 1), .bool false, .bool false, .bool false, .slice (some ⟨gu1, 0, none⟩) (n1 + 1) cu2, .pointer (some ⟨gu1, 0, none⟩), .int .i64 pj, .slice (some ⟨gt, 0, none⟩) 5 ct, .int .i64 (j : Int), .pointer (some ⟨gt, j * 5, none⟩), .pointer (some ⟨gt, j * 5 + 1, none⟩), .int .i64 pj, .bool false, .bool false, .bool false, .slice (some ⟨gu1, 0, none⟩) (n1 + 1) cu2, .slice (some ⟨gu1, 0, none⟩) (n1 + 1) cu2, .int .i64 ((n1 : Int) + 1), .int .i64 (n1 : Int), .pointer (some ⟨gu1, n1, none⟩), .int .i64 0, .bool false, .bool false, .bool false] ∧ dd = true ∧ m = n1 + 1 ∧ au = some ⟨gu1, 0, none⟩ ∧ Hid (j < 5 ∧ 0 < j ∧ (reAt ts j).live = true ∧ (reAt ts j).par = pj ∧ ups.length = n1 + 1 ∧ ups.getD 0 0 = pj ∧ ups.getD n1 0 = 0 ∧ n1 ≤ 4)) ∨ (l = [.int .i64 (j : Int), .bool true, .bool true, .slice (some ⟨gt, 0, none⟩) 5 ct, .int .i64 (j : Int), .pointer (some ⟨gt, j * 5, none⟩), .pointer (some ⟨gt, j * 5, none⟩), .bool false, .bool false, .bool false, undef, undef, undef, undef, undef, undef, undef, undef, undef, undef, undef, undef, undef, undef, undef, undef, undef, undef, undef, undef, undef, undef, undef, undef, undef, undef, undef, .bool false] ∧ Hid (j < 5 ∧ 0 < j ∧ (reAt ts j).live = false)) ∨ (l = [.int .i64 ((0 : Nat) : Int), .bool false, .bool false, undef, undef, undef, undef, undef, .bool false, .bool false, undef, undef, undef, undef, undef, undef, undef, undef, undef, undef, undef, undef, undef, undef, undef, undef, undef, undef, undef, undef, undef, undef, undef, undef, undef, undef, undef, .bool false] ∧ j = 0)) := by
            rcases HUPS.out with h | h | h
            · exact ⟨_, .inl ⟨rfl, h⟩⟩
            · exact ⟨_, .inr (.inl ⟨rfl, h⟩)⟩
            · exact ⟨_, .inr (.inr ⟨rfl, h⟩)⟩
          refine wp_region_whole (by kernel_rfl) (by kernel_rfl) (by kernel_rfl) (by kernel_rfl) (Flat (fun wz => Law1 w gt ct ts gb a b c ad len cb gs A B C wz ∧ UpsAt wz au ups ∧ Below wB.heap.size wB wz) (gVals l)) (flat_start ⟨HL1.out.on (below_draw _), HUP.out.drew, below_draw _⟩) ?_ ?_
          · refine ⟨?_, ?_, ?_, ?_, ?_, ?_, ?_, ?_, ?_, ?_, ?_, ?_, ?_, ?_, ?_, ?_, ?_, ?_, ?_, ?_, ?_, ?_, ?_, ?_, ?_, ?_, ?_, ?_, ?_, ?_, ?_, ?_, ?_, ?_, ?_, ?_, ?_, ?_, trivial⟩
            · intro b0 us wz L hslot hoth hLi hR hcl hdo K hK
              rcases HL.out with ⟨rfl, rfl, rfl, rfl, hf⟩ | ⟨rfl, hf⟩ | ⟨rfl, rfl⟩
              · have s19 : b0.tmps.getD 19 undef = .int .i64 (j : Int) := hoth 19 (by rfl)
                clear hslot hoth hdo hcl hLi
                refine guard_none (by rfl) ?_
                go_simp
                exact hK _ _ (flat_mark (hR.1) (fun _ _ h => h) hR.2 rfl)
              · have s19 : b0.tmps.getD 19 undef = .int .i64 (j : Int) := hoth 19 (by rfl)
                clear hslot hoth hdo hcl hLi
                refine guard_none (by rfl) ?_
                go_simp
                exact hK _ _ (flat_mark (hR.1) (fun _ _ h => h) hR.2 rfl)
              · have s19 : b0.tmps.getD 19 undef = .int .i64 ((0 : Nat) : Int) := hoth 19 (by rfl)
                clear hslot hoth hdo hcl hLi
                refine guard_none (by rfl) ?_
                go_simp
                exact hK _ _ (flat_mark (hR.1) (fun _ _ h => h) hR.2 rfl)
            · intro b0 us wz L hslot hoth hLi hR hcl hdo K hK
              rcases HL.out with ⟨rfl, rfl, rfl, rfl, hf⟩ | ⟨rfl, hf⟩ | ⟨rfl, rfl⟩
              · have s197 : b0.tmps.getD 197 undef = .int .i64 (j : Int) := (hslot 0 197 (by rfl)).trans (hR.2 0 (done_at hdo 0 (by rfl)))
                have hj0 : (0 : Int) < (j : Int) := by have := hf.out; omega
                have hj0n : 0 < j := by have := hf.out; omega
                clear hslot hoth hdo hcl hLi
                refine guard_none (by rfl) ?_
                go_simp
                exact hK _ _ (flat_mark (hR.1) (fun _ _ h => h) hR.2 rfl)
              · have s197 : b0.tmps.getD 197 undef = .int .i64 (j : Int) := (hslot 0 197 (by rfl)).trans (hR.2 0 (done_at hdo 0 (by rfl)))
                have hj0 : (0 : Int) < (j : Int) := by have := hf.out; omega
                have hj0n : 0 < j := by have := hf.out; omega
                clear hslot hoth hdo hcl hLi
                refine guard_none (by rfl) ?_
                go_simp
                exact hK _ _ (flat_mark (hR.1) (fun _ _ h => h) hR.2 rfl)
              · have s197 : b0.tmps.getD 197 undef = .int .i64 ((0 : Nat) : Int) := (hslot 0 197 (by rfl)).trans (hR.2 0 (done_at hdo 0 (by rfl)))
                clear hslot hoth hdo hcl hLi
                refine guard_none (by rfl) ?_
                go_simp
                exact hK _ _ (flat_mark (hR.1) (fun _ _ h => h) hR.2 rfl)
            · intro b0 us wz L hslot hoth hLi hR hcl hdo K hK
              rcases HL.out with ⟨rfl, rfl, rfl, rfl, hf⟩ | ⟨rfl, hf⟩ | ⟨rfl, rfl⟩
              · have s198 : b0.tmps.getD 198 undef = .bool true := (hslot 1 198 (by rfl)).trans (hR.2 1 (done_at hdo 1 (by rfl)))
                clear hslot hoth hdo hcl hLi
                refine guard_none (by rfl) ?_
                go_simp
                exact hK _ _ (flat_mark (hR.1) (fun _ _ h => h) hR.2 rfl)
              · have s198 : b0.tmps.getD 198 undef = .bool true := (hslot 1 198 (by rfl)).trans (hR.2 1 (done_at hdo 1 (by rfl)))
                clear hslot hoth hdo hcl hLi
                refine guard_none (by rfl) ?_
                go_simp
                exact hK _ _ (flat_mark (hR.1) (fun _ _ h => h) hR.2 rfl)
              · have s198 : b0.tmps.getD 198 undef = .bool false := (hslot 1 198 (by rfl)).trans (hR.2 1 (done_at hdo 1 (by rfl)))
                clear hslot hoth hdo hcl hLi
                refine guard_none (by rfl) ?_
                go_simp
                exact hK _ _ (flat_mark (hR.1) (fun _ _ h => h) hR.2 rfl)
            · intro b0 us wz L hslot hoth hLi hR hcl hdo K hK
              rcases HL.out with ⟨rfl, rfl, rfl, rfl, hf⟩ | ⟨rfl, hf⟩ | ⟨rfl, rfl⟩
              · have gg : us 2 = .bool true := hR.2 2 (done_at hdo 2 (by rfl))
                have s3 : b0.tmps.getD 3 undef = .slice (some ⟨gt, 0, none⟩) 5 ct := hoth 3 (by rfl)
                clear hslot hoth hdo hcl hLi
                refine guard_on (j := 2) (want := true) (d := 199) (by rfl) (by rfl) gg ?_
                go_simp
                exact hK _ _ (flat_mark (hR.1) (fun _ _ h => h) hR.2 rfl)
              · have gg : us 2 = .bool true := hR.2 2 (done_at hdo 2 (by rfl))
                have s3 : b0.tmps.getD 3 undef = .slice (some ⟨gt, 0, none⟩) 5 ct := hoth 3 (by rfl)
                clear hslot hoth hdo hcl hLi
                refine guard_on (j := 2) (want := true) (d := 199) (by rfl) (by rfl) gg ?_
                go_simp
                exact hK _ _ (flat_mark (hR.1) (fun _ _ h => h) hR.2 rfl)
              · have gg : us 2 = .bool false := hR.2 2 (done_at hdo 2 (by rfl))
                refine guard_off (j := 2) (want := true) (d := 199) (by rfl) (by rfl) gg (by rfl) ?_
                exact hK undef _ (flat_mark (hR.1) (fun _ _ h => h) hR.2 rfl)
            · intro b0 us wz L hslot hoth hLi hR hcl hdo K hK
              rcases HL.out with ⟨rfl, rfl, rfl, rfl, hf⟩ | ⟨rfl, hf⟩ | ⟨rfl, rfl⟩
              · have gg : us 2 = .bool true := hR.2 2 (done_at hdo 2 (by rfl))
                have s19 : b0.tmps.getD 19 undef = .int .i64 (j : Int) := hoth 19 (by rfl)
                clear hslot hoth hdo hcl hLi
                refine guard_on (j := 2) (want := true) (d := 199) (by rfl) (by rfl) gg ?_
                go_simp
                exact hK _ _ (flat_mark (hR.1) (fun _ _ h => h) hR.2 rfl)
              · have gg : us 2 = .bool true := hR.2 2 (done_at hdo 2 (by rfl))
                have s19 : b0.tmps.getD 19 undef = .int .i64 (j : Int) := hoth 19 (by rfl)
                clear hslot hoth hdo hcl hLi
                refine guard_on (j := 2) (want := true) (d := 199) (by rfl) (by rfl) gg ?_
                go_simp
                exact hK _ _ (flat_mark (hR.1) (fun _ _ h => h) hR.2 rfl)
              · have gg : us 2 = .bool false := hR.2 2 (done_at hdo 2 (by rfl))
                refine guard_off (j := 2) (want := true) (d := 199) (by rfl) (by rfl) gg (by rfl) ?_
                exact hK undef _ (flat_mark (hR.1) (fun _ _ h => h) hR.2 rfl)
            · intro b0 us wz L hslot hoth hLi hR hcl hdo K hK
              rcases HL.out with ⟨rfl, rfl, rfl, rfl, hf⟩ | ⟨rfl, hf⟩ | ⟨rfl, rfl⟩
              · have gg : us 2 = .bool true := hR.2 2 (done_at hdo 2 (by rfl))
                have s200 : b0.tmps.getD 200 undef = .slice (some ⟨gt, 0, none⟩) 5 ct := (hslot 3 200 (by rfl)).trans (hR.2 3 (done_at hdo 3 (by rfl)))
                have s201 : b0.tmps.getD 201 undef = .int .i64 (j : Int) := (hslot 4 201 (by rfl)).trans (hR.2 4 (done_at hdo 4 (by rfl)))
                have hj5 : (j : Int) < 5 := by have := hf.out; omega
                clear hslot hoth hdo hcl hLi
                refine guard_on (j := 2) (want := true) (d := 199) (by rfl) (by rfl) gg ?_
                go_simp
                exact hK _ _ (flat_mark (hR.1) (fun _ _ h => h) hR.2 rfl)
              · have gg : us 2 = .bool true := hR.2 2 (done_at hdo 2 (by rfl))
                have s200 : b0.tmps.getD 200 undef = .slice (some ⟨gt, 0, none⟩) 5 ct := (hslot 3 200 (by rfl)).trans (hR.2 3 (done_at hdo 3 (by rfl)))
                have s201 : b0.tmps.getD 201 undef = .int .i64 (j : Int) := (hslot 4 201 (by rfl)).trans (hR.2 4 (done_at hdo 4 (by rfl)))
                have hj5 : (j : Int) < 5 := by have := hf.out; omega
                clear hslot hoth hdo hcl hLi
                refine guard_on (j := 2) (want := true) (d := 199) (by rfl) (by rfl) gg ?_
                go_simp
                exact hK _ _ (flat_mark (hR.1) (fun _ _ h => h) hR.2 rfl)
              · have gg : us 2 = .bool false := hR.2 2 (done_at hdo 2 (by rfl))
                refine guard_off (j := 2) (want := true) (d := 199) (by rfl) (by rfl) gg (by rfl) ?_
                exact hK undef _ (flat_mark (hR.1) (fun _ _ h => h) hR.2 rfl)
            · intro b0 us wz L hslot hoth hLi hR hcl hdo K hK
              rcases HL.out with ⟨rfl, rfl, rfl, rfl, hf⟩ | ⟨rfl, hf⟩ | ⟨rfl, rfl⟩
              · have gg : us 2 = .bool true := hR.2 2 (done_at hdo 2 (by rfl))
                have s202 : b0.tmps.getD 202 undef = .pointer (some ⟨gt, j * 5, none⟩) := (hslot 5 202 (by rfl)).trans (hR.2 5 (done_at hdo 5 (by rfl)))
                clear hslot hoth hdo hcl hLi
                refine guard_on (j := 2) (want := true) (d := 199) (by rfl) (by rfl) gg ?_
                go_simp
                exact hK _ _ (flat_mark (hR.1) (fun _ _ h => h) hR.2 rfl)
              · have gg : us 2 = .bool true := hR.2 2 (done_at hdo 2 (by rfl))
                have s202 : b0.tmps.getD 202 undef = .pointer (some ⟨gt, j * 5, none⟩) := (hslot 5 202 (by rfl)).trans (hR.2 5 (done_at hdo 5 (by rfl)))
                clear hslot hoth hdo hcl hLi
                refine guard_on (j := 2) (want := true) (d := 199) (by rfl) (by rfl) gg ?_
                go_simp
                exact hK _ _ (flat_mark (hR.1) (fun _ _ h => h) hR.2 rfl)
              · have gg : us 2 = .bool false := hR.2 2 (done_at hdo 2 (by rfl))
                refine guard_off (j := 2) (want := true) (d := 199) (by rfl) (by rfl) gg (by rfl) ?_
                exact hK undef _ (flat_mark (hR.1) (fun _ _ h => h) hR.2 rfl)
            · intro b0 us wz L hslot hoth hLi hR hcl hdo K hK
              rcases HL.out with ⟨rfl, rfl, rfl, rfl, hf⟩ | ⟨rfl, hf⟩ | ⟨rfl, rfl⟩
              · have gg : us 2 = .bool true := hR.2 2 (done_at hdo 2 (by rfl))
                have s203 : b0.tmps.getD 203 undef = .pointer (some ⟨gt, j * 5, none⟩) := (hslot 6 203 (by rfl)).trans (hR.2 6 (done_at hdo 6 (by rfl)))
                have k0 := (isTree_cell hR.1.1.o.t hf.out.1).c0
                rw [hf.out.2.2.1] at k0
                clear hslot hoth hdo hcl hLi
                refine guard_on (j := 2) (want := true) (d := 199) (by rfl) (by rfl) gg ?_
                go_simp
                exact hK _ _ (flat_mark (hR.1) (fun _ _ h => h) hR.2 rfl)
              · have gg : us 2 = .bool true := hR.2 2 (done_at hdo 2 (by rfl))
                have s203 : b0.tmps.getD 203 undef = .pointer (some ⟨gt, j * 5, none⟩) := (hslot 6 203 (by rfl)).trans (hR.2 6 (done_at hdo 6 (by rfl)))
                have k0 := (isTree_cell hR.1.1.o.t hf.out.1).c0
                rw [hf.out.2.2] at k0
                clear hslot hoth hdo hcl hLi
                refine guard_on (j := 2) (want := true) (d := 199) (by rfl) (by rfl) gg ?_
                go_simp
                exact hK _ _ (flat_mark (hR.1) (fun _ _ h => h) hR.2 rfl)
              · have gg : us 2 = .bool false := hR.2 2 (done_at hdo 2 (by rfl))
                refine guard_off (j := 2) (want := true) (d := 199) (by rfl) (by rfl) gg (by rfl) ?_
                exact hK undef _ (flat_mark (hR.1) (fun _ _ h => h) hR.2 rfl)
            · intro b0 us wz L hslot hoth hLi hR hcl hdo K hK
              rcases HL.out with ⟨rfl, rfl, rfl, rfl, hf⟩ | ⟨rfl, hf⟩ | ⟨rfl, rfl⟩
              · have s199 : b0.tmps.getD 199 undef = .bool true := (hslot 2 199 (by rfl)).trans (hR.2 2 (done_at hdo 2 (by rfl)))
                have s204 : b0.tmps.getD 204 undef = .bool true := (hslot 7 204 (by rfl)).trans (hR.2 7 (done_at hdo 7 (by rfl)))
                clear hslot hoth hdo hcl hLi
                refine guard_none (by rfl) ?_
                go_simp
                exact hK _ _ (flat_mark (hR.1) (fun _ _ h => h) hR.2 rfl)
              · have s199 : b0.tmps.getD 199 undef = .bool true := (hslot 2 199 (by rfl)).trans (hR.2 2 (done_at hdo 2 (by rfl)))
                have s204 : b0.tmps.getD 204 undef = .bool false := (hslot 7 204 (by rfl)).trans (hR.2 7 (done_at hdo 7 (by rfl)))
                clear hslot hoth hdo hcl hLi
                refine guard_none (by rfl) ?_
                go_simp
                exact hK _ _ (flat_mark (hR.1) (fun _ _ h => h) hR.2 rfl)
              · have s199 : b0.tmps.getD 199 undef = .bool false := (hslot 2 199 (by rfl)).trans (hR.2 2 (done_at hdo 2 (by rfl)))
                have s204 : b0.tmps.getD 204 undef = undef := (hslot 7 204 (by rfl)).trans (hR.2 7 (done_at hdo 7 (by rfl)))
                clear hslot hoth hdo hcl hLi
                refine guard_none (by rfl) ?_
                go_simp
                exact hK _ _ (flat_mark (hR.1) (fun _ _ h => h) hR.2 rfl)
            · intro b0 us wz L hslot hoth hLi hR hcl hdo K hK
              rcases HL.out with ⟨rfl, rfl, rfl, rfl, hf⟩ | ⟨rfl, hf⟩ | ⟨rfl, rfl⟩
              · have s205 : b0.tmps.getD 205 undef = .bool true := (hslot 8 205 (by rfl)).trans (hR.2 8 (done_at hdo 8 (by rfl)))
                clear hslot hoth hdo hcl hLi
                refine guard_none (by rfl) ?_
                go_simp
                exact hK _ _ (flat_mark (hR.1) (fun _ _ h => h) hR.2 rfl)
              · have s205 : b0.tmps.getD 205 undef = .bool false := (hslot 8 205 (by rfl)).trans (hR.2 8 (done_at hdo 8 (by rfl)))
                clear hslot hoth hdo hcl hLi
                refine guard_none (by rfl) ?_
                go_simp
                exact hK _ _ (flat_mark (hR.1) (fun _ _ h => h) hR.2 rfl)
              · have s205 : b0.tmps.getD 205 undef = .bool false := (hslot 8 205 (by rfl)).trans (hR.2 8 (done_at hdo 8 (by rfl)))
                clear hslot hoth hdo hcl hLi
                refine guard_none (by rfl) ?_
                go_simp
                exact hK _ _ (flat_mark (hR.1) (fun _ _ h => h) hR.2 rfl)
            · intro b0 us wz L hslot hoth hLi hR hcl hdo K hK
              rcases HL.out with ⟨rfl, rfl, rfl, rfl, hf⟩ | ⟨rfl, hf⟩ | ⟨rfl, rfl⟩
              · have gg : us 9 = .bool true := hR.2 9 (done_at hdo 9 (by rfl))
                have s23 : b0.tmps.getD 23 undef = .bool true := hoth 23 (by rfl)
                clear hslot hoth hdo hcl hLi
                refine guard_on (j := 9) (want := true) (d := 206) (by rfl) (by rfl) gg ?_
                go_simp
                exact hK _ _ (flat_mark (hR.1) (fun _ _ h => h) hR.2 rfl)
              · have gg : us 9 = .bool false := hR.2 9 (done_at hdo 9 (by rfl))
                refine guard_off (j := 9) (want := true) (d := 206) (by rfl) (by rfl) gg (by rfl) ?_
                exact hK undef _ (flat_mark (hR.1) (fun _ _ h => h) hR.2 rfl)
              · have gg : us 9 = .bool false := hR.2 9 (done_at hdo 9 (by rfl))
                refine guard_off (j := 9) (want := true) (d := 206) (by rfl) (by rfl) gg (by rfl) ?_
                exact hK undef _ (flat_mark (hR.1) (fun _ _ h => h) hR.2 rfl)
            · intro b0 us wz L hslot hoth hLi hR hcl hdo K hK
              rcases HL.out with ⟨rfl, rfl, rfl, rfl, hf⟩ | ⟨rfl, hf⟩ | ⟨rfl, rfl⟩
              · have gg : us 9 = .bool true := hR.2 9 (done_at hdo 9 (by rfl))
                have s207 : b0.tmps.getD 207 undef = .bool true := (hslot 10 207 (by rfl)).trans (hR.2 10 (done_at hdo 10 (by rfl)))
                clear hslot hoth hdo hcl hLi
                refine guard_on (j := 9) (want := true) (d := 206) (by rfl) (by rfl) gg ?_
                go_simp
                exact hK _ _ (flat_mark (hR.1) (fun _ _ h => h) hR.2 rfl)
              · have gg : us 9 = .bool false := hR.2 9 (done_at hdo 9 (by rfl))
                refine guard_off (j := 9) (want := true) (d := 206) (by rfl) (by rfl) gg (by rfl) ?_
                exact hK undef _ (flat_mark (hR.1) (fun _ _ h => h) hR.2 rfl)
              · have gg : us 9 = .bool false := hR.2 9 (done_at hdo 9 (by rfl))
                refine guard_off (j := 9) (want := true) (d := 206) (by rfl) (by rfl) gg (by rfl) ?_
                exact hK undef _ (flat_mark (hR.1) (fun _ _ h => h) hR.2 rfl)
            · intro b0 us wz L hslot hoth hLi hR hcl hdo K hK
              rcases HL.out with ⟨rfl, rfl, rfl, rfl, hf⟩ | ⟨rfl, hf⟩ | ⟨rfl, rfl⟩
              · have gg : us 9 = .bool true := hR.2 9 (done_at hdo 9 (by rfl))
                have s208 : b0.tmps.getD 208 undef = .bool false := (hslot 11 208 (by rfl)).trans (hR.2 11 (done_at hdo 11 (by rfl)))
                clear hslot hoth hdo hcl hLi
                refine guard_on (j := 9) (want := true) (d := 206) (by rfl) (by rfl) gg ?_
                go_simp
                exact hK _ _ (flat_mark (hR.1) (fun _ _ h => h) hR.2 rfl)
              · have gg : us 9 = .bool false := hR.2 9 (done_at hdo 9 (by rfl))
                refine guard_off (j := 9) (want := true) (d := 206) (by rfl) (by rfl) gg (by rfl) ?_
                exact hK undef _ (flat_mark (hR.1) (fun _ _ h => h) hR.2 rfl)
              · have gg : us 9 = .bool false := hR.2 9 (done_at hdo 9 (by rfl))
                refine guard_off (j := 9) (want := true) (d := 206) (by rfl) (by rfl) gg (by rfl) ?_
                exact hK undef _ (flat_mark (hR.1) (fun _ _ h => h) hR.2 rfl)
            · intro b0 us wz L hslot hoth hLi hR hcl hdo K hK
              rcases HL.out with ⟨rfl, rfl, rfl, rfl, hf⟩ | ⟨rfl, hf⟩ | ⟨rfl, rfl⟩
              · have gg : us 12 = .bool false := hR.2 12 (done_at hdo 12 (by rfl))
                have s24 : b0.tmps.getD 24 undef = .slice (some ⟨gu1, 0, none⟩) (n1 + 1) cu2 := hoth 24 (by rfl)
                clear hslot hoth hdo hcl hLi
                refine guard_on (j := 12) (want := false) (d := 209) (by rfl) (by rfl) gg ?_
                go_simp
                exact hK _ _ (flat_mark (hR.1) (fun _ _ h => h) hR.2 rfl)
              · have gg : us 12 = undef := hR.2 12 (done_at hdo 12 (by rfl))
                refine guard_und (j := 12) (want := false) (d := 209) (by rfl) (by rfl) gg ?_
                exact hK undef _ (flat_mark (hR.1) (fun _ _ h => h) hR.2 rfl)
              · have gg : us 12 = undef := hR.2 12 (done_at hdo 12 (by rfl))
                refine guard_und (j := 12) (want := false) (d := 209) (by rfl) (by rfl) gg ?_
                exact hK undef _ (flat_mark (hR.1) (fun _ _ h => h) hR.2 rfl)
            · intro b0 us wz L hslot hoth hLi hR hcl hdo K hK
              rcases HL.out with ⟨rfl, rfl, rfl, rfl, hf⟩ | ⟨rfl, hf⟩ | ⟨rfl, rfl⟩
              · have gg : us 12 = .bool false := hR.2 12 (done_at hdo 12 (by rfl))
                have s210 : b0.tmps.getD 210 undef = .slice (some ⟨gu1, 0, none⟩) (n1 + 1) cu2 := (hslot 13 210 (by rfl)).trans (hR.2 13 (done_at hdo 13 (by rfl)))
                clear hslot hoth hdo hcl hLi
                refine guard_on (j := 12) (want := false) (d := 209) (by rfl) (by rfl) gg ?_
                go_simp
                exact hK _ _ (flat_mark (hR.1) (fun _ _ h => h) hR.2 rfl)
              · have gg : us 12 = undef := hR.2 12 (done_at hdo 12 (by rfl))
                refine guard_und (j := 12) (want := false) (d := 209) (by rfl) (by rfl) gg ?_
                exact hK undef _ (flat_mark (hR.1) (fun _ _ h => h) hR.2 rfl)
              · have gg : us 12 = undef := hR.2 12 (done_at hdo 12 (by rfl))
                refine guard_und (j := 12) (want := false) (d := 209) (by rfl) (by rfl) gg ?_
                exact hK undef _ (flat_mark (hR.1) (fun _ _ h => h) hR.2 rfl)
            · intro b0 us wz L hslot hoth hLi hR hcl hdo K hK
              rcases HL.out with ⟨rfl, rfl, rfl, rfl, hf⟩ | ⟨rfl, hf⟩ | ⟨rfl, rfl⟩
              · have gg : us 12 = .bool false := hR.2 12 (done_at hdo 12 (by rfl))
                have s211 : b0.tmps.getD 211 undef = .int .i64 ((n1 : Int) + 1) := (hslot 14 211 (by rfl)).trans (hR.2 14 (done_at hdo 14 (by rfl)))
                have hn1 : ¬ ((n1 : Int) + 1 = 0) := by omega
                clear hslot hoth hdo hcl hLi
                refine guard_on (j := 12) (want := false) (d := 209) (by rfl) (by rfl) gg ?_
                go_simp
                exact hK _ _ (flat_mark (hR.1) (fun _ _ h => h) hR.2 rfl)
              · have gg : us 12 = undef := hR.2 12 (done_at hdo 12 (by rfl))
                refine guard_und (j := 12) (want := false) (d := 209) (by rfl) (by rfl) gg ?_
                exact hK undef _ (flat_mark (hR.1) (fun _ _ h => h) hR.2 rfl)
              · have gg : us 12 = undef := hR.2 12 (done_at hdo 12 (by rfl))
                refine guard_und (j := 12) (want := false) (d := 209) (by rfl) (by rfl) gg ?_
                exact hK undef _ (flat_mark (hR.1) (fun _ _ h => h) hR.2 rfl)
            · intro b0 us wz L hslot hoth hLi hR hcl hdo K hK
              rcases HL.out with ⟨rfl, rfl, rfl, rfl, hf⟩ | ⟨rfl, hf⟩ | ⟨rfl, rfl⟩
              · have gg : us 9 = .bool true := hR.2 9 (done_at hdo 9 (by rfl))
                have s209 : b0.tmps.getD 209 undef = .bool false := (hslot 12 209 (by rfl)).trans (hR.2 12 (done_at hdo 12 (by rfl)))
                have s212 : b0.tmps.getD 212 undef = .bool false := (hslot 15 212 (by rfl)).trans (hR.2 15 (done_at hdo 15 (by rfl)))
                clear hslot hoth hdo hcl hLi
                refine guard_on (j := 9) (want := true) (d := 206) (by rfl) (by rfl) gg ?_
                go_simp
                exact hK _ _ (flat_mark (hR.1) (fun _ _ h => h) hR.2 rfl)
              · have gg : us 9 = .bool false := hR.2 9 (done_at hdo 9 (by rfl))
                refine guard_off (j := 9) (want := true) (d := 206) (by rfl) (by rfl) gg (by rfl) ?_
                exact hK undef _ (flat_mark (hR.1) (fun _ _ h => h) hR.2 rfl)
              · have gg : us 9 = .bool false := hR.2 9 (done_at hdo 9 (by rfl))
                refine guard_off (j := 9) (want := true) (d := 206) (by rfl) (by rfl) gg (by rfl) ?_
                exact hK undef _ (flat_mark (hR.1) (fun _ _ h => h) hR.2 rfl)
            · intro b0 us wz L hslot hoth hLi hR hcl hdo K hK
              rcases HL.out with ⟨rfl, rfl, rfl, rfl, hf⟩ | ⟨rfl, hf⟩ | ⟨rfl, rfl⟩
              · have gg : us 9 = .bool true := hR.2 9 (done_at hdo 9 (by rfl))
                have s213 : b0.tmps.getD 213 undef = .bool false := (hslot 16 213 (by rfl)).trans (hR.2 16 (done_at hdo 16 (by rfl)))
                clear hslot hoth hdo hcl hLi
                refine guard_on (j := 9) (want := true) (d := 206) (by rfl) (by rfl) gg ?_
                go_simp
                exact hK _ _ (flat_mark (hR.1) (fun _ _ h => h) hR.2 rfl)
              · have gg : us 9 = .bool false := hR.2 9 (done_at hdo 9 (by rfl))
                refine guard_off (j := 9) (want := true) (d := 206) (by rfl) (by rfl) gg (by rfl) ?_
                exact hK undef _ (flat_mark (hR.1) (fun _ _ h => h) hR.2 rfl)
              · have gg : us 9 = .bool false := hR.2 9 (done_at hdo 9 (by rfl))
                refine guard_off (j := 9) (want := true) (d := 206) (by rfl) (by rfl) gg (by rfl) ?_
                exact hK undef _ (flat_mark (hR.1) (fun _ _ h => h) hR.2 rfl)
            · intro b0 us wz L hslot hoth hLi hR hcl hdo K hK
              rcases HL.out with ⟨rfl, rfl, rfl, rfl, hf⟩ | ⟨rfl, hf⟩ | ⟨rfl, rfl⟩
              · have gg : us 17 = .bool false := hR.2 17 (done_at hdo 17 (by rfl))
                have s24 : b0.tmps.getD 24 undef = .slice (some ⟨gu1, 0, none⟩) (n1 + 1) cu2 := hoth 24 (by rfl)
                clear hslot hoth hdo hcl hLi
                refine guard_on (j := 17) (want := false) (d := 214) (by rfl) (by rfl) gg ?_
                go_simp
                exact hK _ _ (flat_mark (hR.1) (fun _ _ h => h) hR.2 rfl)
              · have gg : us 17 = undef := hR.2 17 (done_at hdo 17 (by rfl))
                refine guard_und (j := 17) (want := false) (d := 214) (by rfl) (by rfl) gg ?_
                exact hK undef _ (flat_mark (hR.1) (fun _ _ h => h) hR.2 rfl)
              · have gg : us 17 = undef := hR.2 17 (done_at hdo 17 (by rfl))
                refine guard_und (j := 17) (want := false) (d := 214) (by rfl) (by rfl) gg ?_
                exact hK undef _ (flat_mark (hR.1) (fun _ _ h => h) hR.2 rfl)
            · intro b0 us wz L hslot hoth hLi hR hcl hdo K hK
              rcases HL.out with ⟨rfl, rfl, rfl, rfl, hf⟩ | ⟨rfl, hf⟩ | ⟨rfl, rfl⟩
              · have gg : us 17 = .bool false := hR.2 17 (done_at hdo 17 (by rfl))
                have s215 : b0.tmps.getD 215 undef = .slice (some ⟨gu1, 0, none⟩) (n1 + 1) cu2 := (hslot 18 215 (by rfl)).trans (hR.2 18 (done_at hdo 18 (by rfl)))
                clear hslot hoth hdo hcl hLi
                refine guard_on (j := 17) (want := false) (d := 214) (by rfl) (by rfl) gg ?_
                go_simp
                exact hK _ _ (flat_mark (hR.1) (fun _ _ h => h) hR.2 rfl)
              · have gg : us 17 = undef := hR.2 17 (done_at hdo 17 (by rfl))
                refine guard_und (j := 17) (want := false) (d := 214) (by rfl) (by rfl) gg ?_
                exact hK undef _ (flat_mark (hR.1) (fun _ _ h => h) hR.2 rfl)
              · have gg : us 17 = undef := hR.2 17 (done_at hdo 17 (by rfl))
                refine guard_und (j := 17) (want := false) (d := 214) (by rfl) (by rfl) gg ?_
                exact hK undef _ (flat_mark (hR.1) (fun _ _ h => h) hR.2 rfl)
            · intro b0 us wz L hslot hoth hLi hR hcl hdo K hK
              rcases HL.out with ⟨rfl, rfl, rfl, rfl, hf⟩ | ⟨rfl, hf⟩ | ⟨rfl, rfl⟩
              · have gg : us 17 = .bool false := hR.2 17 (done_at hdo 17 (by rfl))
                have s216 : b0.tmps.getD 216 undef = .pointer (some ⟨gu1, 0, none⟩) := (hslot 19 216 (by rfl)).trans (hR.2 19 (done_at hdo 19 (by rfl)))
                obtain ⟨rest, hrow⟩ := hR.1.2.1 _ rfl
                have k0 := hrow.cell 0 (by have := hf.out; omega)
                rw [hf.out.2.2.2.2.2.1] at k0
                clear hrow
                clear hslot hoth hdo hcl hLi
                refine guard_on (j := 17) (want := false) (d := 214) (by rfl) (by rfl) gg ?_
                go_simp
                exact hK _ _ (flat_mark (hR.1) (fun _ _ h => h) hR.2 rfl)
              · have gg : us 17 = undef := hR.2 17 (done_at hdo 17 (by rfl))
                refine guard_und (j := 17) (want := false) (d := 214) (by rfl) (by rfl) gg ?_
                exact hK undef _ (flat_mark (hR.1) (fun _ _ h => h) hR.2 rfl)
              · have gg : us 17 = undef := hR.2 17 (done_at hdo 17 (by rfl))
                refine guard_und (j := 17) (want := false) (d := 214) (by rfl) (by rfl) gg ?_
                exact hK undef _ (flat_mark (hR.1) (fun _ _ h => h) hR.2 rfl)
            · intro b0 us wz L hslot hoth hLi hR hcl hdo K hK
              rcases HL.out with ⟨rfl, rfl, rfl, rfl, hf⟩ | ⟨rfl, hf⟩ | ⟨rfl, rfl⟩
              · have gg : us 17 = .bool false := hR.2 17 (done_at hdo 17 (by rfl))
                have s3 : b0.tmps.getD 3 undef = .slice (some ⟨gt, 0, none⟩) 5 ct := hoth 3 (by rfl)
                clear hslot hoth hdo hcl hLi
                refine guard_on (j := 17) (want := false) (d := 214) (by rfl) (by rfl) gg ?_
                go_simp
                exact hK _ _ (flat_mark (hR.1) (fun _ _ h => h) hR.2 rfl)
              · have gg : us 17 = undef := hR.2 17 (done_at hdo 17 (by rfl))
                refine guard_und (j := 17) (want := false) (d := 214) (by rfl) (by rfl) gg ?_
                exact hK undef _ (flat_mark (hR.1) (fun _ _ h => h) hR.2 rfl)
              · have gg : us 17 = undef := hR.2 17 (done_at hdo 17 (by rfl))
                refine guard_und (j := 17) (want := false) (d := 214) (by rfl) (by rfl) gg ?_
                exact hK undef _ (flat_mark (hR.1) (fun _ _ h => h) hR.2 rfl)
            · intro b0 us wz L hslot hoth hLi hR hcl hdo K hK
              rcases HL.out with ⟨rfl, rfl, rfl, rfl, hf⟩ | ⟨rfl, hf⟩ | ⟨rfl, rfl⟩
              · have gg : us 17 = .bool false := hR.2 17 (done_at hdo 17 (by rfl))
                have s19 : b0.tmps.getD 19 undef = .int .i64 (j : Int) := hoth 19 (by rfl)
                clear hslot hoth hdo hcl hLi
                refine guard_on (j := 17) (want := false) (d := 214) (by rfl) (by rfl) gg ?_
                go_simp
                exact hK _ _ (flat_mark (hR.1) (fun _ _ h => h) hR.2 rfl)
              · have gg : us 17 = undef := hR.2 17 (done_at hdo 17 (by rfl))
                refine guard_und (j := 17) (want := false) (d := 214) (by rfl) (by rfl) gg ?_
                exact hK undef _ (flat_mark (hR.1) (fun _ _ h => h) hR.2 rfl)
              · have gg : us 17 = undef := hR.2 17 (done_at hdo 17 (by rfl))
                refine guard_und (j := 17) (want := false) (d := 214) (by rfl) (by rfl) gg ?_
                exact hK undef _ (flat_mark (hR.1) (fun _ _ h => h) hR.2 rfl)
            · intro b0 us wz L hslot hoth hLi hR hcl hdo K hK
              rcases HL.out with ⟨rfl, rfl, rfl, rfl, hf⟩ | ⟨rfl, hf⟩ | ⟨rfl, rfl⟩
              · have gg : us 17 = .bool false := hR.2 17 (done_at hdo 17 (by rfl))
                have s218 : b0.tmps.getD 218 undef = .slice (some ⟨gt, 0, none⟩) 5 ct := (hslot 21 218 (by rfl)).trans (hR.2 21 (done_at hdo 21 (by rfl)))
                have s219 : b0.tmps.getD 219 undef = .int .i64 (j : Int) := (hslot 22 219 (by rfl)).trans (hR.2 22 (done_at hdo 22 (by rfl)))
                have hj5 : (j : Int) < 5 := by have := hf.out; omega
                clear hslot hoth hdo hcl hLi
                refine guard_on (j := 17) (want := false) (d := 214) (by rfl) (by rfl) gg ?_
                go_simp
                exact hK _ _ (flat_mark (hR.1) (fun _ _ h => h) hR.2 rfl)
              · have gg : us 17 = undef := hR.2 17 (done_at hdo 17 (by rfl))
                refine guard_und (j := 17) (want := false) (d := 214) (by rfl) (by rfl) gg ?_
                exact hK undef _ (flat_mark (hR.1) (fun _ _ h => h) hR.2 rfl)
              · have gg : us 17 = undef := hR.2 17 (done_at hdo 17 (by rfl))
                refine guard_und (j := 17) (want := false) (d := 214) (by rfl) (by rfl) gg ?_
                exact hK undef _ (flat_mark (hR.1) (fun _ _ h => h) hR.2 rfl)
            · intro b0 us wz L hslot hoth hLi hR hcl hdo K hK
              rcases HL.out with ⟨rfl, rfl, rfl, rfl, hf⟩ | ⟨rfl, hf⟩ | ⟨rfl, rfl⟩
              · have gg : us 17 = .bool false := hR.2 17 (done_at hdo 17 (by rfl))
                have s220 : b0.tmps.getD 220 undef = .pointer (some ⟨gt, j * 5, none⟩) := (hslot 23 220 (by rfl)).trans (hR.2 23 (done_at hdo 23 (by rfl)))
                clear hslot hoth hdo hcl hLi
                refine guard_on (j := 17) (want := false) (d := 214) (by rfl) (by rfl) gg ?_
                go_simp
                exact hK _ _ (flat_mark (hR.1) (fun _ _ h => h) hR.2 rfl)
              · have gg : us 17 = undef := hR.2 17 (done_at hdo 17 (by rfl))
                refine guard_und (j := 17) (want := false) (d := 214) (by rfl) (by rfl) gg ?_
                exact hK undef _ (flat_mark (hR.1) (fun _ _ h => h) hR.2 rfl)
              · have gg : us 17 = undef := hR.2 17 (done_at hdo 17 (by rfl))
                refine guard_und (j := 17) (want := false) (d := 214) (by rfl) (by rfl) gg ?_
                exact hK undef _ (flat_mark (hR.1) (fun _ _ h => h) hR.2 rfl)
            · intro b0 us wz L hslot hoth hLi hR hcl hdo K hK
              rcases HL.out with ⟨rfl, rfl, rfl, rfl, hf⟩ | ⟨rfl, hf⟩ | ⟨rfl, rfl⟩
              · have gg : us 17 = .bool false := hR.2 17 (done_at hdo 17 (by rfl))
                have s221 : b0.tmps.getD 221 undef = .pointer (some ⟨gt, j * 5 + 1, none⟩) := (hslot 24 221 (by rfl)).trans (hR.2 24 (done_at hdo 24 (by rfl)))
                have k1 := (isTree_cell hR.1.1.o.t hf.out.1).c1
                rw [hf.out.2.2.2.1] at k1
                clear hslot hoth hdo hcl hLi
                refine guard_on (j := 17) (want := false) (d := 214) (by rfl) (by rfl) gg ?_
                go_simp
                exact hK _ _ (flat_mark (hR.1) (fun _ _ h => h) hR.2 rfl)
              · have gg : us 17 = undef := hR.2 17 (done_at hdo 17 (by rfl))
                refine guard_und (j := 17) (want := false) (d := 214) (by rfl) (by rfl) gg ?_
                exact hK undef _ (flat_mark (hR.1) (fun _ _ h => h) hR.2 rfl)
              · have gg : us 17 = undef := hR.2 17 (done_at hdo 17 (by rfl))
                refine guard_und (j := 17) (want := false) (d := 214) (by rfl) (by rfl) gg ?_
                exact hK undef _ (flat_mark (hR.1) (fun _ _ h => h) hR.2 rfl)
            · intro b0 us wz L hslot hoth hLi hR hcl hdo K hK
              rcases HL.out with ⟨rfl, rfl, rfl, rfl, hf⟩ | ⟨rfl, hf⟩ | ⟨rfl, rfl⟩
              · have gg : us 17 = .bool false := hR.2 17 (done_at hdo 17 (by rfl))
                have s217 : b0.tmps.getD 217 undef = .int .i64 pj := (hslot 20 217 (by rfl)).trans (hR.2 20 (done_at hdo 20 (by rfl)))
                have s222 : b0.tmps.getD 222 undef = .int .i64 pj := (hslot 25 222 (by rfl)).trans (hR.2 25 (done_at hdo 25 (by rfl)))
                clear hslot hoth hdo hcl hLi
                refine guard_on (j := 17) (want := false) (d := 214) (by rfl) (by rfl) gg ?_
                go_simp
                exact hK _ _ (flat_mark (hR.1) (fun _ _ h => h) hR.2 rfl)
              · have gg : us 17 = undef := hR.2 17 (done_at hdo 17 (by rfl))
                refine guard_und (j := 17) (want := false) (d := 214) (by rfl) (by rfl) gg ?_
                exact hK undef _ (flat_mark (hR.1) (fun _ _ h => h) hR.2 rfl)
              · have gg : us 17 = undef := hR.2 17 (done_at hdo 17 (by rfl))
                refine guard_und (j := 17) (want := false) (d := 214) (by rfl) (by rfl) gg ?_
                exact hK undef _ (flat_mark (hR.1) (fun _ _ h => h) hR.2 rfl)
            · intro b0 us wz L hslot hoth hLi hR hcl hdo K hK
              rcases HL.out with ⟨rfl, rfl, rfl, rfl, hf⟩ | ⟨rfl, hf⟩ | ⟨rfl, rfl⟩
              · have gg : us 9 = .bool true := hR.2 9 (done_at hdo 9 (by rfl))
                have s214 : b0.tmps.getD 214 undef = .bool false := (hslot 17 214 (by rfl)).trans (hR.2 17 (done_at hdo 17 (by rfl)))
                have s223 : b0.tmps.getD 223 undef = .bool false := (hslot 26 223 (by rfl)).trans (hR.2 26 (done_at hdo 26 (by rfl)))
                clear hslot hoth hdo hcl hLi
                refine guard_on (j := 9) (want := true) (d := 206) (by rfl) (by rfl) gg ?_
                go_simp
                exact hK _ _ (flat_mark (hR.1) (fun _ _ h => h) hR.2 rfl)
              · have gg : us 9 = .bool false := hR.2 9 (done_at hdo 9 (by rfl))
                refine guard_off (j := 9) (want := true) (d := 206) (by rfl) (by rfl) gg (by rfl) ?_
                exact hK undef _ (flat_mark (hR.1) (fun _ _ h => h) hR.2 rfl)
              · have gg : us 9 = .bool false := hR.2 9 (done_at hdo 9 (by rfl))
                refine guard_off (j := 9) (want := true) (d := 206) (by rfl) (by rfl) gg (by rfl) ?_
                exact hK undef _ (flat_mark (hR.1) (fun _ _ h => h) hR.2 rfl)
            · intro b0 us wz L hslot hoth hLi hR hcl hdo K hK
              rcases HL.out with ⟨rfl, rfl, rfl, rfl, hf⟩ | ⟨rfl, hf⟩ | ⟨rfl, rfl⟩
              · have gg : us 9 = .bool true := hR.2 9 (done_at hdo 9 (by rfl))
                have s224 : b0.tmps.getD 224 undef = .bool false := (hslot 27 224 (by rfl)).trans (hR.2 27 (done_at hdo 27 (by rfl)))
                clear hslot hoth hdo hcl hLi
                refine guard_on (j := 9) (want := true) (d := 206) (by rfl) (by rfl) gg ?_
                go_simp
                exact hK _ _ (flat_mark (hR.1) (fun _ _ h => h) hR.2 rfl)
              · have gg : us 9 = .bool false := hR.2 9 (done_at hdo 9 (by rfl))
                refine guard_off (j := 9) (want := true) (d := 206) (by rfl) (by rfl) gg (by rfl) ?_
                exact hK undef _ (flat_mark (hR.1) (fun _ _ h => h) hR.2 rfl)
              · have gg : us 9 = .bool false := hR.2 9 (done_at hdo 9 (by rfl))
                refine guard_off (j := 9) (want := true) (d := 206) (by rfl) (by rfl) gg (by rfl) ?_
                exact hK undef _ (flat_mark (hR.1) (fun _ _ h => h) hR.2 rfl)
            · intro b0 us wz L hslot hoth hLi hR hcl hdo K hK
              rcases HL.out with ⟨rfl, rfl, rfl, rfl, hf⟩ | ⟨rfl, hf⟩ | ⟨rfl, rfl⟩
              · have gg : us 28 = .bool false := hR.2 28 (done_at hdo 28 (by rfl))
                have s24 : b0.tmps.getD 24 undef = .slice (some ⟨gu1, 0, none⟩) (n1 + 1) cu2 := hoth 24 (by rfl)
                clear hslot hoth hdo hcl hLi
                refine guard_on (j := 28) (want := false) (d := 225) (by rfl) (by rfl) gg ?_
                go_simp
                exact hK _ _ (flat_mark (hR.1) (fun _ _ h => h) hR.2 rfl)
              · have gg : us 28 = undef := hR.2 28 (done_at hdo 28 (by rfl))
                refine guard_und (j := 28) (want := false) (d := 225) (by rfl) (by rfl) gg ?_
                exact hK undef _ (flat_mark (hR.1) (fun _ _ h => h) hR.2 rfl)
              · have gg : us 28 = undef := hR.2 28 (done_at hdo 28 (by rfl))
                refine guard_und (j := 28) (want := false) (d := 225) (by rfl) (by rfl) gg ?_
                exact hK undef _ (flat_mark (hR.1) (fun _ _ h => h) hR.2 rfl)
            · intro b0 us wz L hslot hoth hLi hR hcl hdo K hK
              rcases HL.out with ⟨rfl, rfl, rfl, rfl, hf⟩ | ⟨rfl, hf⟩ | ⟨rfl, rfl⟩
              · have gg : us 28 = .bool false := hR.2 28 (done_at hdo 28 (by rfl))
                have s24 : b0.tmps.getD 24 undef = .slice (some ⟨gu1, 0, none⟩) (n1 + 1) cu2 := hoth 24 (by rfl)
                clear hslot hoth hdo hcl hLi
                refine guard_on (j := 28) (want := false) (d := 225) (by rfl) (by rfl) gg ?_
                go_simp
                exact hK _ _ (flat_mark (hR.1) (fun _ _ h => h) hR.2 rfl)
              · have gg : us 28 = undef := hR.2 28 (done_at hdo 28 (by rfl))
                refine guard_und (j := 28) (want := false) (d := 225) (by rfl) (by rfl) gg ?_
                exact hK undef _ (flat_mark (hR.1) (fun _ _ h => h) hR.2 rfl)
              · have gg : us 28 = undef := hR.2 28 (done_at hdo 28 (by rfl))
                refine guard_und (j := 28) (want := false) (d := 225) (by rfl) (by rfl) gg ?_
                exact hK undef _ (flat_mark (hR.1) (fun _ _ h => h) hR.2 rfl)
            · intro b0 us wz L hslot hoth hLi hR hcl hdo K hK
              rcases HL.out with ⟨rfl, rfl, rfl, rfl, hf⟩ | ⟨rfl, hf⟩ | ⟨rfl, rfl⟩
              · have gg : us 28 = .bool false := hR.2 28 (done_at hdo 28 (by rfl))
                have s227 : b0.tmps.getD 227 undef = .slice (some ⟨gu1, 0, none⟩) (n1 + 1) cu2 := (hslot 30 227 (by rfl)).trans (hR.2 30 (done_at hdo 30 (by rfl)))
                clear hslot hoth hdo hcl hLi
                refine guard_on (j := 28) (want := false) (d := 225) (by rfl) (by rfl) gg ?_
                go_simp
                exact hK _ _ (flat_mark (hR.1) (fun _ _ h => h) hR.2 rfl)
              · have gg : us 28 = undef := hR.2 28 (done_at hdo 28 (by rfl))
                refine guard_und (j := 28) (want := false) (d := 225) (by rfl) (by rfl) gg ?_
                exact hK undef _ (flat_mark (hR.1) (fun _ _ h => h) hR.2 rfl)
              · have gg : us 28 = undef := hR.2 28 (done_at hdo 28 (by rfl))
                refine guard_und (j := 28) (want := false) (d := 225) (by rfl) (by rfl) gg ?_
                exact hK undef _ (flat_mark (hR.1) (fun _ _ h => h) hR.2 rfl)
            · intro b0 us wz L hslot hoth hLi hR hcl hdo K hK
              rcases HL.out with ⟨rfl, rfl, rfl, rfl, hf⟩ | ⟨rfl, hf⟩ | ⟨rfl, rfl⟩
              · have gg : us 28 = .bool false := hR.2 28 (done_at hdo 28 (by rfl))
                have s228 : b0.tmps.getD 228 undef = .int .i64 ((n1 : Int) + 1) := (hslot 31 228 (by rfl)).trans (hR.2 31 (done_at hdo 31 (by rfl)))
                have hn4 : (n1 : Int) ≤ 4 := by have := hf.out; omega
                have hwn : IntKind.i64.wrap (n1 : Int) = (n1 : Int) := wraps_i64 _ (by omega) (by omega)
                clear hslot hoth hdo hcl hLi
                refine guard_on (j := 28) (want := false) (d := 225) (by rfl) (by rfl) gg ?_
                go_simp
                exact hK _ _ (flat_mark (hR.1) (fun _ _ h => h) hR.2 rfl)
              · have gg : us 28 = undef := hR.2 28 (done_at hdo 28 (by rfl))
                refine guard_und (j := 28) (want := false) (d := 225) (by rfl) (by rfl) gg ?_
                exact hK undef _ (flat_mark (hR.1) (fun _ _ h => h) hR.2 rfl)
              · have gg : us 28 = undef := hR.2 28 (done_at hdo 28 (by rfl))
                refine guard_und (j := 28) (want := false) (d := 225) (by rfl) (by rfl) gg ?_
                exact hK undef _ (flat_mark (hR.1) (fun _ _ h => h) hR.2 rfl)
            · intro b0 us wz L hslot hoth hLi hR hcl hdo K hK
              rcases HL.out with ⟨rfl, rfl, rfl, rfl, hf⟩ | ⟨rfl, hf⟩ | ⟨rfl, rfl⟩
              · have gg : us 28 = .bool false := hR.2 28 (done_at hdo 28 (by rfl))
                have s226 : b0.tmps.getD 226 undef = .slice (some ⟨gu1, 0, none⟩) (n1 + 1) cu2 := (hslot 29 226 (by rfl)).trans (hR.2 29 (done_at hdo 29 (by rfl)))
                have s229 : b0.tmps.getD 229 undef = .int .i64 (n1 : Int) := (hslot 32 229 (by rfl)).trans (hR.2 32 (done_at hdo 32 (by rfl)))
                have hnn : (n1 : Int) < (n1 : Int) + 1 := by omega
                clear hslot hoth hdo hcl hLi
                refine guard_on (j := 28) (want := false) (d := 225) (by rfl) (by rfl) gg ?_
                go_simp
                exact hK _ _ (flat_mark (hR.1) (fun _ _ h => h) hR.2 rfl)
              · have gg : us 28 = undef := hR.2 28 (done_at hdo 28 (by rfl))
                refine guard_und (j := 28) (want := false) (d := 225) (by rfl) (by rfl) gg ?_
                exact hK undef _ (flat_mark (hR.1) (fun _ _ h => h) hR.2 rfl)
              · have gg : us 28 = undef := hR.2 28 (done_at hdo 28 (by rfl))
                refine guard_und (j := 28) (want := false) (d := 225) (by rfl) (by rfl) gg ?_
                exact hK undef _ (flat_mark (hR.1) (fun _ _ h => h) hR.2 rfl)
            · intro b0 us wz L hslot hoth hLi hR hcl hdo K hK
              rcases HL.out with ⟨rfl, rfl, rfl, rfl, hf⟩ | ⟨rfl, hf⟩ | ⟨rfl, rfl⟩
              · have gg : us 28 = .bool false := hR.2 28 (done_at hdo 28 (by rfl))
                have s230 : b0.tmps.getD 230 undef = .pointer (some ⟨gu1, n1, none⟩) := (hslot 33 230 (by rfl)).trans (hR.2 33 (done_at hdo 33 (by rfl)))
                obtain ⟨rest, hrow⟩ := hR.1.2.1 _ rfl
                have k0 := hrow.cell n1 (by have := hf.out; omega)
                rw [hf.out.2.2.2.2.2.2.1] at k0
                clear hrow
                clear hslot hoth hdo hcl hLi
                refine guard_on (j := 28) (want := false) (d := 225) (by rfl) (by rfl) gg ?_
                go_simp
                exact hK _ _ (flat_mark (hR.1) (fun _ _ h => h) hR.2 rfl)
              · have gg : us 28 = undef := hR.2 28 (done_at hdo 28 (by rfl))
                refine guard_und (j := 28) (want := false) (d := 225) (by rfl) (by rfl) gg ?_
                exact hK undef _ (flat_mark (hR.1) (fun _ _ h => h) hR.2 rfl)
              · have gg : us 28 = undef := hR.2 28 (done_at hdo 28 (by rfl))
                refine guard_und (j := 28) (want := false) (d := 225) (by rfl) (by rfl) gg ?_
                exact hK undef _ (flat_mark (hR.1) (fun _ _ h => h) hR.2 rfl)
            · intro b0 us wz L hslot hoth hLi hR hcl hdo K hK
              rcases HL.out with ⟨rfl, rfl, rfl, rfl, hf⟩ | ⟨rfl, hf⟩ | ⟨rfl, rfl⟩
              · have gg : us 28 = .bool false := hR.2 28 (done_at hdo 28 (by rfl))
                have s231 : b0.tmps.getD 231 undef = .int .i64 0 := (hslot 34 231 (by rfl)).trans (hR.2 34 (done_at hdo 34 (by rfl)))
                clear hslot hoth hdo hcl hLi
                refine guard_on (j := 28) (want := false) (d := 225) (by rfl) (by rfl) gg ?_
                go_simp
                exact hK _ _ (flat_mark (hR.1) (fun _ _ h => h) hR.2 rfl)
              · have gg : us 28 = undef := hR.2 28 (done_at hdo 28 (by rfl))
                refine guard_und (j := 28) (want := false) (d := 225) (by rfl) (by rfl) gg ?_
                exact hK undef _ (flat_mark (hR.1) (fun _ _ h => h) hR.2 rfl)
              · have gg : us 28 = undef := hR.2 28 (done_at hdo 28 (by rfl))
                refine guard_und (j := 28) (want := false) (d := 225) (by rfl) (by rfl) gg ?_
                exact hK undef _ (flat_mark (hR.1) (fun _ _ h => h) hR.2 rfl)
            · intro b0 us wz L hslot hoth hLi hR hcl hdo K hK
              rcases HL.out with ⟨rfl, rfl, rfl, rfl, hf⟩ | ⟨rfl, hf⟩ | ⟨rfl, rfl⟩
              · have gg : us 9 = .bool true := hR.2 9 (done_at hdo 9 (by rfl))
                have s225 : b0.tmps.getD 225 undef = .bool false := (hslot 28 225 (by rfl)).trans (hR.2 28 (done_at hdo 28 (by rfl)))
                have s232 : b0.tmps.getD 232 undef = .bool false := (hslot 35 232 (by rfl)).trans (hR.2 35 (done_at hdo 35 (by rfl)))
                clear hslot hoth hdo hcl hLi
                refine guard_on (j := 9) (want := true) (d := 206) (by rfl) (by rfl) gg ?_
                go_simp
                exact hK _ _ (flat_mark (hR.1) (fun _ _ h => h) hR.2 rfl)
              · have gg : us 9 = .bool false := hR.2 9 (done_at hdo 9 (by rfl))
                refine guard_off (j := 9) (want := true) (d := 206) (by rfl) (by rfl) gg (by rfl) ?_
                exact hK undef _ (flat_mark (hR.1) (fun _ _ h => h) hR.2 rfl)
              · have gg : us 9 = .bool false := hR.2 9 (done_at hdo 9 (by rfl))
                refine guard_off (j := 9) (want := true) (d := 206) (by rfl) (by rfl) gg (by rfl) ?_
                exact hK undef _ (flat_mark (hR.1) (fun _ _ h => h) hR.2 rfl)
            · intro b0 us wz L hslot hoth hLi hR hcl hdo K hK
              rcases HL.out with ⟨rfl, rfl, rfl, rfl, hf⟩ | ⟨rfl, hf⟩ | ⟨rfl, rfl⟩
              · have s206 : b0.tmps.getD 206 undef = .bool true := (hslot 9 206 (by rfl)).trans (hR.2 9 (done_at hdo 9 (by rfl)))
                have s233 : b0.tmps.getD 233 undef = .bool false := (hslot 36 233 (by rfl)).trans (hR.2 36 (done_at hdo 36 (by rfl)))
                clear hslot hoth hdo hcl hLi
                refine guard_none (by rfl) ?_
                go_simp
                exact hK _ _ (flat_mark (hR.1) (fun _ _ h => h) hR.2 rfl)
              · have s206 : b0.tmps.getD 206 undef = .bool false := (hslot 9 206 (by rfl)).trans (hR.2 9 (done_at hdo 9 (by rfl)))
                have s233 : b0.tmps.getD 233 undef = undef := (hslot 36 233 (by rfl)).trans (hR.2 36 (done_at hdo 36 (by rfl)))
                clear hslot hoth hdo hcl hLi
                refine guard_none (by rfl) ?_
                go_simp
                exact hK _ _ (flat_mark (hR.1) (fun _ _ h => h) hR.2 rfl)
              · have s206 : b0.tmps.getD 206 undef = .bool false := (hslot 9 206 (by rfl)).trans (hR.2 9 (done_at hdo 9 (by rfl)))
                have s233 : b0.tmps.getD 233 undef = undef := (hslot 36 233 (by rfl)).trans (hR.2 36 (done_at hdo 36 (by rfl)))
                clear hslot hoth hdo hcl hLi
                refine guard_none (by rfl) ?_
                go_simp
                exact hK _ _ (flat_mark (hR.1) (fun _ _ h => h) hR.2 rfl)
          · intro us wn L hall hR a' ha'
            have g37 : us 37 = .bool false := by
              have := hR.2 37 (hall 37 (by decide))
              rcases HL.out with ⟨rfl, _⟩ | ⟨rfl, _⟩ | ⟨rfl, _⟩
              all_goals exact this
            have HB := hid_of hR.1
            have HBB := hid_of hR.1.2.2
            clear hR hall
            simp only [putAll, g37] at ha'
            subst ha'
            go_frame
            have HL2 : Hid (Law1 w gt ct ts gb a b c ad len cb gs A B C wn) := HB.out.1
            have HBD : Hid (Below wB.heap.size wB wn) := HBB.out
            have HV2 := hid_of (HV.out.on HBD.out)
            have HW2 := hid_of (HW.out.on HBD.out)
            clear HB HL l HL1 HV HW HUP HUPS HBB HBD
            have HL1 := HL2
            have HV := HV2
            have HW := HW2
            clear HL2 HV2 HW2
            go_wp2_with fail
            obtain ⟨l, HL⟩ : ∃ l, Hid ((l = [.slice (some ⟨gv, 0, none⟩) 5 cv, .bool true, .bool true, .slice (some ⟨gv, 0, none⟩) 5 cv, amt A B C, amt A B C, .bool true, .bool true, .bool true, .bool true, .bool true, undef, undef, undef, .bool true, .bool true, .bool true, .slice (some ⟨gw, 0, none⟩) 5 cw, .bool true, .bool true, .bool true, .slice (some ⟨gw, 0, none⟩) 5 cw, amt A B C, amt A B C, .bool true, .bool true, .bool true] ∧ gv0 = true) ∨ (l = [.slice (some ⟨gv, 0, none⟩) 5 cv, .bool true, .bool true, .slice (some ⟨gv, 0, none⟩) 5 cv, amt A B C, amt A B C, .bool true, .bool true, .bool true, .bool false, .bool false, .slice (some ⟨gv, 0, none⟩) 5 cv, .slice (some ⟨gt, 0, none⟩) 5 ct, .bool true, .bool true, .bool true, .bool true, .slice (some ⟨gw, 0, none⟩) 5 cw, .bool true, .bool true, .bool true, .slice (some ⟨gw, 0, none⟩) 5 cw, amt A B C, amt A B C, .bool true, .bool true, .bool true] ∧ gv0 = false ∧ Hid (vs = ts))) := by
              cases h : gv0 with
              | true => exact ⟨_, .inl ⟨rfl, rfl⟩⟩
              | false => exact ⟨_, .inr ⟨rfl, rfl, HGV.out h⟩⟩
            refine wp_region_whole (by kernel_rfl) (by kernel_rfl) (by kernel_rfl) (by kernel_rfl) (Flat (fun wz => Law1 w gt ct ts gb a b c ad len cb gs A B C wz ∧ IsTree wz (.slice (some ⟨gv, 0, none⟩) 5 cv) vs ∧ IsTree wz (.slice (some ⟨gw, 0, none⟩) 5 cw) ws) (gVals l)) (flat_start ⟨HL1.out.on (below_draw _), HV.out.on (below_draw _), HW.out.on (below_draw _)⟩) ?_ ?_
            · refine ⟨?_, ?_, ?_, ?_, ?_, ?_, ?_, ?_, ?_, ?_, ?_, ?_, ?_, ?_, ?_, ?_, ?_, ?_, ?_, ?_, ?_, ?_, ?_, ?_, ?_, ?_, ?_, trivial⟩
              · intro b0 us wz L hslot hoth hLi hR hcl hdo K hK
                rcases HL.out with ⟨rfl, rfl⟩ | ⟨rfl, rfl, hf⟩
                · have s20 : b0.tmps.getD 20 undef = .slice (some ⟨gv, 0, none⟩) 5 cv := hoth 20 (by rfl)
                  clear hslot hoth hdo hcl hLi
                  refine guard_none (by rfl) ?_
                  go_simp
                  exact hK _ _ (flat_mark (hR.1) (fun _ _ h => h) hR.2 rfl)
                · have s20 : b0.tmps.getD 20 undef = .slice (some ⟨gv, 0, none⟩) 5 cv := hoth 20 (by rfl)
                  clear hslot hoth hdo hcl hLi
                  refine guard_none (by rfl) ?_
                  go_simp
                  exact hK _ _ (flat_mark (hR.1) (fun _ _ h => h) hR.2 rfl)
              · intro b0 us wz L hslot hoth hLi hR hcl hdo K hK
                rcases HL.out with ⟨rfl, rfl⟩ | ⟨rfl, rfl, hf⟩
                · have s235 : b0.tmps.getD 235 undef = .slice (some ⟨gv, 0, none⟩) 5 cv := (hslot 0 235 (by rfl)).trans (hR.2 0 (done_at hdo 0 (by rfl)))
                  clear hslot hoth hdo hcl hLi
                  refine guard_none (by rfl) ?_
                  go_simp
                  refine (specOk5 hR.1.2.1 HSV.out.ok).mono ?_
                  rintro e w' ⟨rfl, hb⟩
                  exact hK _ _ (flat_mark ⟨hR.1.1.on hb, hR.1.2.1.on hb, hR.1.2.2.on hb⟩ (fun _ _ h => h) hR.2 rfl)
                · have s235 : b0.tmps.getD 235 undef = .slice (some ⟨gv, 0, none⟩) 5 cv := (hslot 0 235 (by rfl)).trans (hR.2 0 (done_at hdo 0 (by rfl)))
                  clear hslot hoth hdo hcl hLi
                  refine guard_none (by rfl) ?_
                  go_simp
                  refine (specOk5 hR.1.2.1 HSV.out.ok).mono ?_
                  rintro e w' ⟨rfl, hb⟩
                  exact hK _ _ (flat_mark ⟨hR.1.1.on hb, hR.1.2.1.on hb, hR.1.2.2.on hb⟩ (fun _ _ h => h) hR.2 rfl)
              · intro b0 us wz L hslot hoth hLi hR hcl hdo K hK
                rcases HL.out with ⟨rfl, rfl⟩ | ⟨rfl, rfl, hf⟩
                · have s236 : b0.tmps.getD 236 undef = .bool true := (hslot 1 236 (by rfl)).trans (hR.2 1 (done_at hdo 1 (by rfl)))
                  clear hslot hoth hdo hcl hLi
                  refine guard_none (by rfl) ?_
                  go_simp
                  exact hK _ _ (flat_mark (hR.1) (fun _ _ h => h) hR.2 rfl)
                · have s236 : b0.tmps.getD 236 undef = .bool true := (hslot 1 236 (by rfl)).trans (hR.2 1 (done_at hdo 1 (by rfl)))
                  clear hslot hoth hdo hcl hLi
                  refine guard_none (by rfl) ?_
                  go_simp
                  exact hK _ _ (flat_mark (hR.1) (fun _ _ h => h) hR.2 rfl)
              · intro b0 us wz L hslot hoth hLi hR hcl hdo K hK
                rcases HL.out with ⟨rfl, rfl⟩ | ⟨rfl, rfl, hf⟩
                · have gg : us 2 = .bool true := hR.2 2 (done_at hdo 2 (by rfl))
                  have s20 : b0.tmps.getD 20 undef = .slice (some ⟨gv, 0, none⟩) 5 cv := hoth 20 (by rfl)
                  clear hslot hoth hdo hcl hLi
                  refine guard_on (j := 2) (want := true) (d := 237) (by rfl) (by rfl) gg ?_
                  go_simp
                  exact hK _ _ (flat_mark (hR.1) (fun _ _ h => h) hR.2 rfl)
                · have gg : us 2 = .bool true := hR.2 2 (done_at hdo 2 (by rfl))
                  have s20 : b0.tmps.getD 20 undef = .slice (some ⟨gv, 0, none⟩) 5 cv := hoth 20 (by rfl)
                  clear hslot hoth hdo hcl hLi
                  refine guard_on (j := 2) (want := true) (d := 237) (by rfl) (by rfl) gg ?_
                  go_simp
                  exact hK _ _ (flat_mark (hR.1) (fun _ _ h => h) hR.2 rfl)
              · intro b0 us wz L hslot hoth hLi hR hcl hdo K hK
                rcases HL.out with ⟨rfl, rfl⟩ | ⟨rfl, rfl, hf⟩
                · have gg : us 2 = .bool true := hR.2 2 (done_at hdo 2 (by rfl))
                  have s238 : b0.tmps.getD 238 undef = .slice (some ⟨gv, 0, none⟩) 5 cv := (hslot 3 238 (by rfl)).trans (hR.2 3 (done_at hdo 3 (by rfl)))
                  clear hslot hoth hdo hcl hLi
                  refine guard_on (j := 2) (want := true) (d := 237) (by rfl) (by rfl) gg ?_
                  go_simp
                  refine (sum5 hR.1.2.1 HSV.out HABC.out.1 HABC.out.2.1 HABC.out.2.2).mono ?_
                  rintro e w' ⟨rfl, hb⟩
                  exact hK _ _ (flat_mark ⟨hR.1.1.on hb, hR.1.2.1.on hb, hR.1.2.2.on hb⟩ (fun _ _ h => h) hR.2 rfl)
                · have gg : us 2 = .bool true := hR.2 2 (done_at hdo 2 (by rfl))
                  have s238 : b0.tmps.getD 238 undef = .slice (some ⟨gv, 0, none⟩) 5 cv := (hslot 3 238 (by rfl)).trans (hR.2 3 (done_at hdo 3 (by rfl)))
                  clear hslot hoth hdo hcl hLi
                  refine guard_on (j := 2) (want := true) (d := 237) (by rfl) (by rfl) gg ?_
                  go_simp
                  refine (sum5 hR.1.2.1 HSV.out HABC.out.1 HABC.out.2.1 HABC.out.2.2).mono ?_
                  rintro e w' ⟨rfl, hb⟩
                  exact hK _ _ (flat_mark ⟨hR.1.1.on hb, hR.1.2.1.on hb, hR.1.2.2.on hb⟩ (fun _ _ h => h) hR.2 rfl)
              · intro b0 us wz L hslot hoth hLi hR hcl hdo K hK
                rcases HL.out with ⟨rfl, rfl⟩ | ⟨rfl, rfl, hf⟩
                · have gg : us 2 = .bool true := hR.2 2 (done_at hdo 2 (by rfl))
                  have s9 : b0.tmps.getD 9 undef = .pointer (some ⟨gs, 0, none⟩) := hoth 9 (by rfl)
                  have k0 := hR.1.1.sum.c0
                  have k1 := hR.1.1.sum.c1
                  have k2 := hR.1.1.sum.c2
                  clear hslot hoth hdo hcl hLi
                  refine guard_on (j := 2) (want := true) (d := 237) (by rfl) (by rfl) gg ?_
                  go_simp
                  exact hK _ _ (flat_mark (hR.1) (fun _ _ h => h) hR.2 rfl)
                · have gg : us 2 = .bool true := hR.2 2 (done_at hdo 2 (by rfl))
                  have s9 : b0.tmps.getD 9 undef = .pointer (some ⟨gs, 0, none⟩) := hoth 9 (by rfl)
                  have k0 := hR.1.1.sum.c0
                  have k1 := hR.1.1.sum.c1
                  have k2 := hR.1.1.sum.c2
                  clear hslot hoth hdo hcl hLi
                  refine guard_on (j := 2) (want := true) (d := 237) (by rfl) (by rfl) gg ?_
                  go_simp
                  exact hK _ _ (flat_mark (hR.1) (fun _ _ h => h) hR.2 rfl)
              · intro b0 us wz L hslot hoth hLi hR hcl hdo K hK
                rcases HL.out with ⟨rfl, rfl⟩ | ⟨rfl, rfl, hf⟩
                · have gg : us 2 = .bool true := hR.2 2 (done_at hdo 2 (by rfl))
                  have s239 : b0.tmps.getD 239 undef = amt A B C := (hslot 4 239 (by rfl)).trans (hR.2 4 (done_at hdo 4 (by rfl)))
                  have s240 : b0.tmps.getD 240 undef = amt A B C := (hslot 5 240 (by rfl)).trans (hR.2 5 (done_at hdo 5 (by rfl)))
                  clear hslot hoth hdo hcl hLi
                  refine guard_on (j := 2) (want := true) (d := 237) (by rfl) (by rfl) gg ?_
                  go_simp
                  exact hK _ _ (flat_mark (hR.1) (fun _ _ h => h) hR.2 rfl)
                · have gg : us 2 = .bool true := hR.2 2 (done_at hdo 2 (by rfl))
                  have s239 : b0.tmps.getD 239 undef = amt A B C := (hslot 4 239 (by rfl)).trans (hR.2 4 (done_at hdo 4 (by rfl)))
                  have s240 : b0.tmps.getD 240 undef = amt A B C := (hslot 5 240 (by rfl)).trans (hR.2 5 (done_at hdo 5 (by rfl)))
                  clear hslot hoth hdo hcl hLi
                  refine guard_on (j := 2) (want := true) (d := 237) (by rfl) (by rfl) gg ?_
                  go_simp
                  exact hK _ _ (flat_mark (hR.1) (fun _ _ h => h) hR.2 rfl)
              · intro b0 us wz L hslot hoth hLi hR hcl hdo K hK
                rcases HL.out with ⟨rfl, rfl⟩ | ⟨rfl, rfl, hf⟩
                · have s237 : b0.tmps.getD 237 undef = .bool true := (hslot 2 237 (by rfl)).trans (hR.2 2 (done_at hdo 2 (by rfl)))
                  have s241 : b0.tmps.getD 241 undef = .bool true := (hslot 6 241 (by rfl)).trans (hR.2 6 (done_at hdo 6 (by rfl)))
                  clear hslot hoth hdo hcl hLi
                  refine guard_none (by rfl) ?_
                  go_simp
                  exact hK _ _ (flat_mark (hR.1) (fun _ _ h => h) hR.2 rfl)
                · have s237 : b0.tmps.getD 237 undef = .bool true := (hslot 2 237 (by rfl)).trans (hR.2 2 (done_at hdo 2 (by rfl)))
                  have s241 : b0.tmps.getD 241 undef = .bool true := (hslot 6 241 (by rfl)).trans (hR.2 6 (done_at hdo 6 (by rfl)))
                  clear hslot hoth hdo hcl hLi
                  refine guard_none (by rfl) ?_
                  go_simp
                  exact hK _ _ (flat_mark (hR.1) (fun _ _ h => h) hR.2 rfl)
              · intro b0 us wz L hslot hoth hLi hR hcl hdo K hK
                rcases HL.out with ⟨rfl, rfl⟩ | ⟨rfl, rfl, hf⟩
                · have s242 : b0.tmps.getD 242 undef = .bool true := (hslot 7 242 (by rfl)).trans (hR.2 7 (done_at hdo 7 (by rfl)))
                  clear hslot hoth hdo hcl hLi
                  refine guard_none (by rfl) ?_
                  go_simp
                  exact hK _ _ (flat_mark (hR.1) (fun _ _ h => h) hR.2 rfl)
                · have s242 : b0.tmps.getD 242 undef = .bool true := (hslot 7 242 (by rfl)).trans (hR.2 7 (done_at hdo 7 (by rfl)))
                  clear hslot hoth hdo hcl hLi
                  refine guard_none (by rfl) ?_
                  go_simp
                  exact hK _ _ (flat_mark (hR.1) (fun _ _ h => h) hR.2 rfl)
              · intro b0 us wz L hslot hoth hLi hR hcl hdo K hK
                rcases HL.out with ⟨rfl, rfl⟩ | ⟨rfl, rfl, hf⟩
                · have gg : us 8 = .bool true := hR.2 8 (done_at hdo 8 (by rfl))
                  have s21 : b0.tmps.getD 21 undef = .bool true := hoth 21 (by rfl)
                  clear hslot hoth hdo hcl hLi
                  refine guard_on (j := 8) (want := true) (d := 243) (by rfl) (by rfl) gg ?_
                  go_simp
                  exact hK _ _ (flat_mark (hR.1) (fun _ _ h => h) hR.2 rfl)
                · have gg : us 8 = .bool true := hR.2 8 (done_at hdo 8 (by rfl))
                  have s21 : b0.tmps.getD 21 undef = .bool false := hoth 21 (by rfl)
                  clear hslot hoth hdo hcl hLi
                  refine guard_on (j := 8) (want := true) (d := 243) (by rfl) (by rfl) gg ?_
                  go_simp
                  exact hK _ _ (flat_mark (hR.1) (fun _ _ h => h) hR.2 rfl)
              · intro b0 us wz L hslot hoth hLi hR hcl hdo K hK
                rcases HL.out with ⟨rfl, rfl⟩ | ⟨rfl, rfl, hf⟩
                · have gg : us 8 = .bool true := hR.2 8 (done_at hdo 8 (by rfl))
                  have s244 : b0.tmps.getD 244 undef = .bool true := (hslot 9 244 (by rfl)).trans (hR.2 9 (done_at hdo 9 (by rfl)))
                  clear hslot hoth hdo hcl hLi
                  refine guard_on (j := 8) (want := true) (d := 243) (by rfl) (by rfl) gg ?_
                  go_simp
                  exact hK _ _ (flat_mark (hR.1) (fun _ _ h => h) hR.2 rfl)
                · have gg : us 8 = .bool true := hR.2 8 (done_at hdo 8 (by rfl))
                  have s244 : b0.tmps.getD 244 undef = .bool false := (hslot 9 244 (by rfl)).trans (hR.2 9 (done_at hdo 9 (by rfl)))
                  clear hslot hoth hdo hcl hLi
                  refine guard_on (j := 8) (want := true) (d := 243) (by rfl) (by rfl) gg ?_
                  go_simp
                  exact hK _ _ (flat_mark (hR.1) (fun _ _ h => h) hR.2 rfl)
              · intro b0 us wz L hslot hoth hLi hR hcl hdo K hK
                rcases HL.out with ⟨rfl, rfl⟩ | ⟨rfl, rfl, hf⟩
                · have gg : us 10 = .bool true := hR.2 10 (done_at hdo 10 (by rfl))
                  refine guard_off (j := 10) (want := false) (d := 245) (by rfl) (by rfl) gg (by rfl) ?_
                  exact hK undef _ (flat_mark (hR.1) (fun _ _ h => h) hR.2 rfl)
                · have gg : us 10 = .bool false := hR.2 10 (done_at hdo 10 (by rfl))
                  have s20 : b0.tmps.getD 20 undef = .slice (some ⟨gv, 0, none⟩) 5 cv := hoth 20 (by rfl)
                  clear hslot hoth hdo hcl hLi
                  refine guard_on (j := 10) (want := false) (d := 245) (by rfl) (by rfl) gg ?_
                  go_simp
                  exact hK _ _ (flat_mark (hR.1) (fun _ _ h => h) hR.2 rfl)
              · intro b0 us wz L hslot hoth hLi hR hcl hdo K hK
                rcases HL.out with ⟨rfl, rfl⟩ | ⟨rfl, rfl, hf⟩
                · have gg : us 10 = .bool true := hR.2 10 (done_at hdo 10 (by rfl))
                  refine guard_off (j := 10) (want := false) (d := 245) (by rfl) (by rfl) gg (by rfl) ?_
                  exact hK undef _ (flat_mark (hR.1) (fun _ _ h => h) hR.2 rfl)
                · have gg : us 10 = .bool false := hR.2 10 (done_at hdo 10 (by rfl))
                  have s3 : b0.tmps.getD 3 undef = .slice (some ⟨gt, 0, none⟩) 5 ct := hoth 3 (by rfl)
                  clear hslot hoth hdo hcl hLi
                  refine guard_on (j := 10) (want := false) (d := 245) (by rfl) (by rfl) gg ?_
                  go_simp
                  exact hK _ _ (flat_mark (hR.1) (fun _ _ h => h) hR.2 rfl)
              · intro b0 us wz L hslot hoth hLi hR hcl hdo K hK
                rcases HL.out with ⟨rfl, rfl⟩ | ⟨rfl, rfl, hf⟩
                · have gg : us 10 = .bool true := hR.2 10 (done_at hdo 10 (by rfl))
                  refine guard_off (j := 10) (want := false) (d := 245) (by rfl) (by rfl) gg (by rfl) ?_
                  exact hK undef _ (flat_mark (hR.1) (fun _ _ h => h) hR.2 rfl)
                · have gg : us 10 = .bool false := hR.2 10 (done_at hdo 10 (by rfl))
                  have s246 : b0.tmps.getD 246 undef = .slice (some ⟨gv, 0, none⟩) 5 cv := (hslot 11 246 (by rfl)).trans (hR.2 11 (done_at hdo 11 (by rfl)))
                  have s247 : b0.tmps.getD 247 undef = .slice (some ⟨gt, 0, none⟩) 5 ct := (hslot 12 247 (by rfl)).trans (hR.2 12 (done_at hdo 12 (by rfl)))
                  have HXT := hR.1.2.1
                  rw [hf.out] at HXT
                  clear hslot hoth hdo hcl hLi
                  refine guard_on (j := 10) (want := false) (d := 245) (by rfl) (by rfl) gg ?_
                  go_simp
                  refine (same5 HXT hR.1.1.o.t).mono ?_
                  rintro e w' ⟨rfl, hb⟩
                  exact hK _ _ (flat_mark ⟨hR.1.1.on hb, hR.1.2.1.on hb, hR.1.2.2.on hb⟩ (fun _ _ h => h) hR.2 rfl)
              · intro b0 us wz L hslot hoth hLi hR hcl hdo K hK
                rcases HL.out with ⟨rfl, rfl⟩ | ⟨rfl, rfl, hf⟩
                · have gg : us 8 = .bool true := hR.2 8 (done_at hdo 8 (by rfl))
                  have s245 : b0.tmps.getD 245 undef = .bool true := (hslot 10 245 (by rfl)).trans (hR.2 10 (done_at hdo 10 (by rfl)))
                  have s248 : b0.tmps.getD 248 undef = undef := (hslot 13 248 (by rfl)).trans (hR.2 13 (done_at hdo 13 (by rfl)))
                  clear hslot hoth hdo hcl hLi
                  refine guard_on (j := 8) (want := true) (d := 243) (by rfl) (by rfl) gg ?_
                  go_simp
                  exact hK _ _ (flat_mark (hR.1) (fun _ _ h => h) hR.2 rfl)
                · have gg : us 8 = .bool true := hR.2 8 (done_at hdo 8 (by rfl))
                  have s245 : b0.tmps.getD 245 undef = .bool false := (hslot 10 245 (by rfl)).trans (hR.2 10 (done_at hdo 10 (by rfl)))
                  have s248 : b0.tmps.getD 248 undef = .bool true := (hslot 13 248 (by rfl)).trans (hR.2 13 (done_at hdo 13 (by rfl)))
                  clear hslot hoth hdo hcl hLi
                  refine guard_on (j := 8) (want := true) (d := 243) (by rfl) (by rfl) gg ?_
                  go_simp
                  exact hK _ _ (flat_mark (hR.1) (fun _ _ h => h) hR.2 rfl)
              · intro b0 us wz L hslot hoth hLi hR hcl hdo K hK
                rcases HL.out with ⟨rfl, rfl⟩ | ⟨rfl, rfl, hf⟩
                · have s243 : b0.tmps.getD 243 undef = .bool true := (hslot 8 243 (by rfl)).trans (hR.2 8 (done_at hdo 8 (by rfl)))
                  have s249 : b0.tmps.getD 249 undef = .bool true := (hslot 14 249 (by rfl)).trans (hR.2 14 (done_at hdo 14 (by rfl)))
                  clear hslot hoth hdo hcl hLi
                  refine guard_none (by rfl) ?_
                  go_simp
                  exact hK _ _ (flat_mark (hR.1) (fun _ _ h => h) hR.2 rfl)
                · have s243 : b0.tmps.getD 243 undef = .bool true := (hslot 8 243 (by rfl)).trans (hR.2 8 (done_at hdo 8 (by rfl)))
                  have s249 : b0.tmps.getD 249 undef = .bool true := (hslot 14 249 (by rfl)).trans (hR.2 14 (done_at hdo 14 (by rfl)))
                  clear hslot hoth hdo hcl hLi
                  refine guard_none (by rfl) ?_
                  go_simp
                  exact hK _ _ (flat_mark (hR.1) (fun _ _ h => h) hR.2 rfl)
              · intro b0 us wz L hslot hoth hLi hR hcl hdo K hK
                rcases HL.out with ⟨rfl, rfl⟩ | ⟨rfl, rfl, hf⟩
                · have s250 : b0.tmps.getD 250 undef = .bool true := (hslot 15 250 (by rfl)).trans (hR.2 15 (done_at hdo 15 (by rfl)))
                  clear hslot hoth hdo hcl hLi
                  refine guard_none (by rfl) ?_
                  go_simp
                  exact hK _ _ (flat_mark (hR.1) (fun _ _ h => h) hR.2 rfl)
                · have s250 : b0.tmps.getD 250 undef = .bool true := (hslot 15 250 (by rfl)).trans (hR.2 15 (done_at hdo 15 (by rfl)))
                  clear hslot hoth hdo hcl hLi
                  refine guard_none (by rfl) ?_
                  go_simp
                  exact hK _ _ (flat_mark (hR.1) (fun _ _ h => h) hR.2 rfl)
              · intro b0 us wz L hslot hoth hLi hR hcl hdo K hK
                rcases HL.out with ⟨rfl, rfl⟩ | ⟨rfl, rfl, hf⟩
                · have gg : us 16 = .bool true := hR.2 16 (done_at hdo 16 (by rfl))
                  have s22 : b0.tmps.getD 22 undef = .slice (some ⟨gw, 0, none⟩) 5 cw := hoth 22 (by rfl)
                  clear hslot hoth hdo hcl hLi
                  refine guard_on (j := 16) (want := true) (d := 251) (by rfl) (by rfl) gg ?_
                  go_simp
                  exact hK _ _ (flat_mark (hR.1) (fun _ _ h => h) hR.2 rfl)
                · have gg : us 16 = .bool true := hR.2 16 (done_at hdo 16 (by rfl))
                  have s22 : b0.tmps.getD 22 undef = .slice (some ⟨gw, 0, none⟩) 5 cw := hoth 22 (by rfl)
                  clear hslot hoth hdo hcl hLi
                  refine guard_on (j := 16) (want := true) (d := 251) (by rfl) (by rfl) gg ?_
                  go_simp
                  exact hK _ _ (flat_mark (hR.1) (fun _ _ h => h) hR.2 rfl)
              · intro b0 us wz L hslot hoth hLi hR hcl hdo K hK
                rcases HL.out with ⟨rfl, rfl⟩ | ⟨rfl, rfl, hf⟩
                · have gg : us 16 = .bool true := hR.2 16 (done_at hdo 16 (by rfl))
                  have s252 : b0.tmps.getD 252 undef = .slice (some ⟨gw, 0, none⟩) 5 cw := (hslot 17 252 (by rfl)).trans (hR.2 17 (done_at hdo 17 (by rfl)))
                  clear hslot hoth hdo hcl hLi
                  refine guard_on (j := 16) (want := true) (d := 251) (by rfl) (by rfl) gg ?_
                  go_simp
                  refine (specOk5 hR.1.2.2 HSW.out.ok).mono ?_
                  rintro e w' ⟨rfl, hb⟩
                  exact hK _ _ (flat_mark ⟨hR.1.1.on hb, hR.1.2.1.on hb, hR.1.2.2.on hb⟩ (fun _ _ h => h) hR.2 rfl)
                · have gg : us 16 = .bool true := hR.2 16 (done_at hdo 16 (by rfl))
                  have s252 : b0.tmps.getD 252 undef = .slice (some ⟨gw, 0, none⟩) 5 cw := (hslot 17 252 (by rfl)).trans (hR.2 17 (done_at hdo 17 (by rfl)))
                  clear hslot hoth hdo hcl hLi
                  refine guard_on (j := 16) (want := true) (d := 251) (by rfl) (by rfl) gg ?_
                  go_simp
                  refine (specOk5 hR.1.2.2 HSW.out.ok).mono ?_
                  rintro e w' ⟨rfl, hb⟩
                  exact hK _ _ (flat_mark ⟨hR.1.1.on hb, hR.1.2.1.on hb, hR.1.2.2.on hb⟩ (fun _ _ h => h) hR.2 rfl)
              · intro b0 us wz L hslot hoth hLi hR hcl hdo K hK
                rcases HL.out with ⟨rfl, rfl⟩ | ⟨rfl, rfl, hf⟩
                · have s251 : b0.tmps.getD 251 undef = .bool true := (hslot 16 251 (by rfl)).trans (hR.2 16 (done_at hdo 16 (by rfl)))
                  have s253 : b0.tmps.getD 253 undef = .bool true := (hslot 18 253 (by rfl)).trans (hR.2 18 (done_at hdo 18 (by rfl)))
                  clear hslot hoth hdo hcl hLi
                  refine guard_none (by rfl) ?_
                  go_simp
                  exact hK _ _ (flat_mark (hR.1) (fun _ _ h => h) hR.2 rfl)
                · have s251 : b0.tmps.getD 251 undef = .bool true := (hslot 16 251 (by rfl)).trans (hR.2 16 (done_at hdo 16 (by rfl)))
                  have s253 : b0.tmps.getD 253 undef = .bool true := (hslot 18 253 (by rfl)).trans (hR.2 18 (done_at hdo 18 (by rfl)))
                  clear hslot hoth hdo hcl hLi
                  refine guard_none (by rfl) ?_
                  go_simp
                  exact hK _ _ (flat_mark (hR.1) (fun _ _ h => h) hR.2 rfl)
              · intro b0 us wz L hslot hoth hLi hR hcl hdo K hK
                rcases HL.out with ⟨rfl, rfl⟩ | ⟨rfl, rfl, hf⟩
                · have s254 : b0.tmps.getD 254 undef = .bool true := (hslot 19 254 (by rfl)).trans (hR.2 19 (done_at hdo 19 (by rfl)))
                  clear hslot hoth hdo hcl hLi
                  refine guard_none (by rfl) ?_
                  go_simp
                  exact hK _ _ (flat_mark (hR.1) (fun _ _ h => h) hR.2 rfl)
                · have s254 : b0.tmps.getD 254 undef = .bool true := (hslot 19 254 (by rfl)).trans (hR.2 19 (done_at hdo 19 (by rfl)))
                  clear hslot hoth hdo hcl hLi
                  refine guard_none (by rfl) ?_
                  go_simp
                  exact hK _ _ (flat_mark (hR.1) (fun _ _ h => h) hR.2 rfl)
              · intro b0 us wz L hslot hoth hLi hR hcl hdo K hK
                rcases HL.out with ⟨rfl, rfl⟩ | ⟨rfl, rfl, hf⟩
                · have gg : us 20 = .bool true := hR.2 20 (done_at hdo 20 (by rfl))
                  have s22 : b0.tmps.getD 22 undef = .slice (some ⟨gw, 0, none⟩) 5 cw := hoth 22 (by rfl)
                  clear hslot hoth hdo hcl hLi
                  refine guard_on (j := 20) (want := true) (d := 255) (by rfl) (by rfl) gg ?_
                  go_simp
                  exact hK _ _ (flat_mark (hR.1) (fun _ _ h => h) hR.2 rfl)
                · have gg : us 20 = .bool true := hR.2 20 (done_at hdo 20 (by rfl))
                  have s22 : b0.tmps.getD 22 undef = .slice (some ⟨gw, 0, none⟩) 5 cw := hoth 22 (by rfl)
                  clear hslot hoth hdo hcl hLi
                  refine guard_on (j := 20) (want := true) (d := 255) (by rfl) (by rfl) gg ?_
                  go_simp
                  exact hK _ _ (flat_mark (hR.1) (fun _ _ h => h) hR.2 rfl)
              · intro b0 us wz L hslot hoth hLi hR hcl hdo K hK
                rcases HL.out with ⟨rfl, rfl⟩ | ⟨rfl, rfl, hf⟩
                · have gg : us 20 = .bool true := hR.2 20 (done_at hdo 20 (by rfl))
                  have s256 : b0.tmps.getD 256 undef = .slice (some ⟨gw, 0, none⟩) 5 cw := (hslot 21 256 (by rfl)).trans (hR.2 21 (done_at hdo 21 (by rfl)))
                  clear hslot hoth hdo hcl hLi
                  refine guard_on (j := 20) (want := true) (d := 255) (by rfl) (by rfl) gg ?_
                  go_simp
                  refine (sum5 hR.1.2.2 HSW.out HABC.out.1 HABC.out.2.1 HABC.out.2.2).mono ?_
                  rintro e w' ⟨rfl, hb⟩
                  exact hK _ _ (flat_mark ⟨hR.1.1.on hb, hR.1.2.1.on hb, hR.1.2.2.on hb⟩ (fun _ _ h => h) hR.2 rfl)
                · have gg : us 20 = .bool true := hR.2 20 (done_at hdo 20 (by rfl))
                  have s256 : b0.tmps.getD 256 undef = .slice (some ⟨gw, 0, none⟩) 5 cw := (hslot 21 256 (by rfl)).trans (hR.2 21 (done_at hdo 21 (by rfl)))
                  clear hslot hoth hdo hcl hLi
                  refine guard_on (j := 20) (want := true) (d := 255) (by rfl) (by rfl) gg ?_
                  go_simp
                  refine (sum5 hR.1.2.2 HSW.out HABC.out.1 HABC.out.2.1 HABC.out.2.2).mono ?_
                  rintro e w' ⟨rfl, hb⟩
                  exact hK _ _ (flat_mark ⟨hR.1.1.on hb, hR.1.2.1.on hb, hR.1.2.2.on hb⟩ (fun _ _ h => h) hR.2 rfl)
              · intro b0 us wz L hslot hoth hLi hR hcl hdo K hK
                rcases HL.out with ⟨rfl, rfl⟩ | ⟨rfl, rfl, hf⟩
                · have gg : us 20 = .bool true := hR.2 20 (done_at hdo 20 (by rfl))
                  have s9 : b0.tmps.getD 9 undef = .pointer (some ⟨gs, 0, none⟩) := hoth 9 (by rfl)
                  have k0 := hR.1.1.sum.c0
                  have k1 := hR.1.1.sum.c1
                  have k2 := hR.1.1.sum.c2
                  clear hslot hoth hdo hcl hLi
                  refine guard_on (j := 20) (want := true) (d := 255) (by rfl) (by rfl) gg ?_
                  go_simp
                  exact hK _ _ (flat_mark (hR.1) (fun _ _ h => h) hR.2 rfl)
                · have gg : us 20 = .bool true := hR.2 20 (done_at hdo 20 (by rfl))
                  have s9 : b0.tmps.getD 9 undef = .pointer (some ⟨gs, 0, none⟩) := hoth 9 (by rfl)
                  have k0 := hR.1.1.sum.c0
                  have k1 := hR.1.1.sum.c1
                  have k2 := hR.1.1.sum.c2
                  clear hslot hoth hdo hcl hLi
                  refine guard_on (j := 20) (want := true) (d := 255) (by rfl) (by rfl) gg ?_
                  go_simp
                  exact hK _ _ (flat_mark (hR.1) (fun _ _ h => h) hR.2 rfl)
              · intro b0 us wz L hslot hoth hLi hR hcl hdo K hK
                rcases HL.out with ⟨rfl, rfl⟩ | ⟨rfl, rfl, hf⟩
                · have gg : us 20 = .bool true := hR.2 20 (done_at hdo 20 (by rfl))
                  have s257 : b0.tmps.getD 257 undef = amt A B C := (hslot 22 257 (by rfl)).trans (hR.2 22 (done_at hdo 22 (by rfl)))
                  have s258 : b0.tmps.getD 258 undef = amt A B C := (hslot 23 258 (by rfl)).trans (hR.2 23 (done_at hdo 23 (by rfl)))
                  clear hslot hoth hdo hcl hLi
                  refine guard_on (j := 20) (want := true) (d := 255) (by rfl) (by rfl) gg ?_
                  go_simp
                  exact hK _ _ (flat_mark (hR.1) (fun _ _ h => h) hR.2 rfl)
                · have gg : us 20 = .bool true := hR.2 20 (done_at hdo 20 (by rfl))
                  have s257 : b0.tmps.getD 257 undef = amt A B C := (hslot 22 257 (by rfl)).trans (hR.2 22 (done_at hdo 22 (by rfl)))
                  have s258 : b0.tmps.getD 258 undef = amt A B C := (hslot 23 258 (by rfl)).trans (hR.2 23 (done_at hdo 23 (by rfl)))
                  clear hslot hoth hdo hcl hLi
                  refine guard_on (j := 20) (want := true) (d := 255) (by rfl) (by rfl) gg ?_
                  go_simp
                  exact hK _ _ (flat_mark (hR.1) (fun _ _ h => h) hR.2 rfl)
              · intro b0 us wz L hslot hoth hLi hR hcl hdo K hK
                rcases HL.out with ⟨rfl, rfl⟩ | ⟨rfl, rfl, hf⟩
                · have s255 : b0.tmps.getD 255 undef = .bool true := (hslot 20 255 (by rfl)).trans (hR.2 20 (done_at hdo 20 (by rfl)))
                  have s259 : b0.tmps.getD 259 undef = .bool true := (hslot 24 259 (by rfl)).trans (hR.2 24 (done_at hdo 24 (by rfl)))
                  clear hslot hoth hdo hcl hLi
                  refine guard_none (by rfl) ?_
                  go_simp
                  exact hK _ _ (flat_mark (hR.1) (fun _ _ h => h) hR.2 rfl)
                · have s255 : b0.tmps.getD 255 undef = .bool true := (hslot 20 255 (by rfl)).trans (hR.2 20 (done_at hdo 20 (by rfl)))
                  have s259 : b0.tmps.getD 259 undef = .bool true := (hslot 24 259 (by rfl)).trans (hR.2 24 (done_at hdo 24 (by rfl)))
                  clear hslot hoth hdo hcl hLi
                  refine guard_none (by rfl) ?_
                  go_simp
                  exact hK _ _ (flat_mark (hR.1) (fun _ _ h => h) hR.2 rfl)
              · intro b0 us wz L hslot hoth hLi hR hcl hdo K hK
                rcases HL.out with ⟨rfl, rfl⟩ | ⟨rfl, rfl, hf⟩
                · have s260 : b0.tmps.getD 260 undef = .bool true := (hslot 25 260 (by rfl)).trans (hR.2 25 (done_at hdo 25 (by rfl)))
                  clear hslot hoth hdo hcl hLi
                  refine guard_none (by rfl) ?_
                  go_simp
                  exact hK _ _ (flat_mark (hR.1) (fun _ _ h => h) hR.2 rfl)
                · have s260 : b0.tmps.getD 260 undef = .bool true := (hslot 25 260 (by rfl)).trans (hR.2 25 (done_at hdo 25 (by rfl)))
                  clear hslot hoth hdo hcl hLi
                  refine guard_none (by rfl) ?_
                  go_simp
                  exact hK _ _ (flat_mark (hR.1) (fun _ _ h => h) hR.2 rfl)
            · intro us wn L hall hR a' ha'
              have g26 : us 26 = .bool true := by
                have := hR.2 26 (hall 26 (by decide))
                rcases HL.out with ⟨rfl, _⟩ | ⟨rfl, _⟩
                all_goals exact this
              have HB := hid_of hR.1
              clear hR hall
              simp only [putAll, g26] at ha'
              subst ha'
              go_frame
              have HZ := hid_of HB.out.1.o.below
              clear HB HL l HL1 HV HW
              go_wp2
              go_ret
              exact ⟨rfl, HZ.out⟩
end Go.Proofs.YtikaibfahanpnaaDoor
