/-
  CatDrop of the program and of the model.
-/
import Derived.Test.YtjceffhogoedaaaCatNew
namespace Go.Proofs.Ytjceffhogoedaaa
open Go.RowKit Go.Maps
set_option linter.unusedVariables false

/-- The table without a category. -/
def dropCats (cs : List (Int × Bool)) (id : Int) : List (Int × Bool) := if catOf cs id < 0 then cs else cs.set (catOf cs id).toNat ((catAt cs (catOf cs id).toNat).1, false)
def DropAns (cs : List (Int × Bool)) (id : Int) (w : World) (e : Ending) (w' : World) : Prop :=
  ∃ g c rs, e = .returned (.tuple #[.slice (some ⟨g, 0, none⟩) cs.length c, .bool (decide (0 ≤ catOf cs id))]) ∧ OwnC g c (dropCats cs id) rs w.heap.size w'.heap.size w' ∧ Below w.heap.size w w'
theorem dropAns_no {cs : List (Int × Bool)} {id : Int} {w w' : World} {e : Ending} {g c : Nat} {rs : List Value} (h : catOf cs id = -1) (he : e = .returned (.tuple #[.slice (some ⟨g, 0, none⟩) cs.length c, .bool false])) (ho : OwnC g c cs rs w.heap.size w'.heap.size w') (hb : Below w.heap.size w w') : DropAns cs id w e w' :=
  ⟨g, c, rs, by rw [he, h]; rfl, by unfold dropCats; rw [if_pos (by omega)]; exact ho, hb⟩
theorem dropAns_yes {cs : List (Int × Bool)} {id : Int} {w w' : World} {e : Ending} {g c k : Nat} {rs : List Value} (h : catOf cs id = k) (he : e = .returned (.tuple #[.slice (some ⟨g, 0, none⟩) cs.length c, .bool true])) (ho : OwnC g c (cs.set k ((catAt cs k).1, false)) rs w.heap.size w'.heap.size w') (hb : Below w.heap.size w w') : DropAns cs id w e w' :=
  ⟨g, c, rs, by rw [he, h, decide_eq_true (by omega)], by unfold dropCats; rw [if_neg (by omega), h]; exact ho, hb⟩
theorem catOf_cases (cs : List (Int × Bool)) (id : Int) : catOf cs id = -1 ∨ ∃ k : Nat, catOf cs id = k ∧ k < 4 ∧ catsOk cs = true ∧ (catAt cs k).2 = true ∧ idAt cs k = id := by
  by_cases h : catsOk cs = true ∧ 0 ≤ id ∧ (catAt cs (id.toNat % 4)).2 = true ∧ (catAt cs (id.toNat % 4)).1 = ((id.toNat / 4 : Nat) : Int)
  · refine .inr ⟨id.toNat % 4, by unfold catOf; rw [if_pos h], by omega, h.1, h.2.2.1, ?_⟩
    unfold idAt; rw [h.2.2.2]; omega
  · exact .inl (by unfold catOf; rw [if_neg h])

/-- The table as far as place 'k' is done. -/
def dropTo (cs : List (Int × Bool)) (j k : Nat) : List (Int × Bool) := if j < k then cs.set j ((catAt cs j).1, false) else cs
theorem dropTo_length (cs : List (Int × Bool)) (j k : Nat) : (dropTo cs j k).length = cs.length := by unfold dropTo; split <;> simp
theorem dropTo_at {cs : List (Int × Bool)} {j k : Nat} : catAt (dropTo cs j k) k = catAt cs k := by
  unfold dropTo; split
  · rename_i h
    unfold catAt
    simp only [List.getD_eq_getElem?_getD]
    rw [List.getElem?_set_ne (by omega)]
  · rfl
theorem set_self (cs : List (Int × Bool)) (k : Nat) (h : k < cs.length) : cs.set k (catAt cs k) = cs := by
  have : catAt cs k = cs[k] := by simp [catAt, h]
  rw [this]; exact List.set_getElem_self h
theorem dropTo_next {cs : List (Int × Bool)} {j k : Nat} (hk : k < cs.length) : (dropTo cs j k).set k ((catAt cs k).1, if k = j then false else (catAt cs k).2) = dropTo cs j (k + 1) := by
  by_cases he : k = j
  · subst he
    unfold dropTo
    simp
  · rw [if_neg he]
    have h1 : (dropTo cs j k).set k (catAt (dropTo cs j k) k) = dropTo cs j k := set_self _ _ (by rw [dropTo_length]; exact hk)
    rw [dropTo_at] at h1
    rw [show ((catAt cs k).1, (catAt cs k).2) = catAt cs k from rfl, h1]
    unfold dropTo
    by_cases hj : j < k
    · rw [if_pos hj, if_pos (by omega)]
    · rw [if_neg hj, if_neg (by omega)]
theorem stays_at {cs : List (Int × Bool)} {j k : Nat} (hg : ∀ i, i < 4 → 0 ≤ (catAt cs i).1) (hk : k < 4) (hj : j < 4) : (delAt (liveTo cs 4) (idAt cs j) (idAt cs k)).isSome = if k = j then false else (catAt cs k).2 := by
  have hne : ∀ a b, a < 4 → b < 4 → a ≠ b → idAt cs a ≠ idAt cs b := fun a b ha hb hab he => by
    unfold idAt at he
    have h1 := hg a ha
    have h2 := hg b hb
    omega
  unfold delAt
  by_cases he : k = j
  · subst he
    rw [if_pos rfl, if_pos rfl]; rfl
  · rw [if_neg (hne k j hk hj he), if_neg he]
    cases hl : (catAt cs k).2 with
    | true => rw [liveTo_some hg 4 (Nat.le_refl _) k hk hl]; rfl
    | false =>
      rw [liveTo_none 4 fun i hi hli hid => by
        by_cases hik : i = k
        · subst hik; rw [hl] at hli; cases hli
        · exact hne k i hk hi (fun e => hik e.symm) hid]
      rfl
theorem grownBy_set (w : World) (g i : Nat) (v : Value) : w.grownBy (w.setCell ⟨g, i, none⟩ v) (some g) :=
  ⟨rfl, rfl, rfl, by simp, fun k hk hne => Below.heap_setCell w ⟨g, i, none⟩ v k (by simpa using hne)⟩
theorem OwnC.more {g cap : Nat} {cs : List (Int × Bool)} {rest : List Value} {lo hi : Nat} {w : World} (h : OwnC g cap cs rest lo hi w) : OwnC g cap cs rest lo w.heap.size w := ⟨h.at', h.cap, h.lo, lt_of_block h.at'⟩

set_option maxHeartbeats 1000000 in
theorem implCatDrop_any (p : Addr) (cap : Nat) (cs : List (Int × Bool)) (id : Int) (w : World) (hx : IsCats w (.slice (some p) cs.length cap) cs) (hn : cs.length ≤ 1048576) (hid : Fits64 id) :
    Calls Try.prog 11 #[.slice (some p) cs.length cap, .int .i64 id] w fun e w' => DropAns cs id w e w' := by
  have C1 := clone_any p cap cs w hx hn
  have c2 := fun w' (hb : Below w.heap.size w w') => implCatOf_any (.slice (some p) cs.length cap) cs id w' (hx.on hb) hn hid
  rcases catOf_cases cs id with h0 | ⟨j, h0, hj, hok, hlive, hidj⟩
  · have H0 : Hid (catOf cs id = -1) := h0
    simp only [h0] at c2
    have C2 : Hid (∀ w', Below w.heap.size w w' → _) := c2
    clear c2 h0 hx hid
    go_enter Try.func11, Try.ntmps11
    go_wp2_with fail
    refine C1.mono ?_
    rintro e w1 ⟨g, c, rs, rfl, ho, hb1⟩
    have HO : Hid (OwnC g c cs rs w.heap.size w1.heap.size w1) := ho
    have HB1 : Hid (Below w.heap.size w w1) := hb1
    clear C1 ho hb1
    go_wp2_with fail
    refine (C2.out _ HB1.out).mono ?_
    rintro e w2 ⟨rfl, hb2⟩
    have HO2 : Hid (OwnC g c cs rs w.heap.size w2.heap.size w2) := (HO.out.on hb2).more
    have HB2 : Hid (Below w.heap.size w w2) := HB1.out.more hb2 HB1.out.size
    clear hb2 HO HB1 C2
    go_wp2
    go_ret2
    exact dropAns_no H0.out rfl HO2.out HB2.out
  · have H0 : Hid (catOf cs id = j) := h0
    have hl := catsOk_four hok
    have HL : Hid (cs.length = 4) := hl
    have c3 := fun w' (hb : Below w.heap.size w w') => livePlaces_any (.slice (some p) cs.length cap) cs w' (hx.on hb) hok
    have HG : Hid (∀ i, i < 4 → 0 ≤ (catAt cs i).1 ∧ (catAt cs i).1 ≤ 999) := fun i hi => catsOk_gen hok hi
    have HS : Hid (∀ k, k < 4 → (delAt (liveTo cs 4) id (idAt cs k)).isSome = if k = j then false else (catAt cs k).2) := fun k hk => by
      rw [← hidj]; exact stays_at (fun i hi => (catsOk_gen hok hi).1) hk hj
    simp only [h0] at c2
    have C2 : Hid (∀ w', Below w.heap.size w w' → _) := c2
    have C3 : Hid (∀ w', Below w.heap.size w w' → _) := c3
    have HID : Hid (Fits64 id) := hid
    have HST : Hid (dropTo cs j 0 = cs) := by show _ = _; unfold dropTo; rw [if_neg (by omega)]
    have HEN : Hid (dropTo cs j 4 = cs.set j ((catAt cs j).1, false)) := by show _ = _; unfold dropTo; rw [if_pos hj]
    have hjp : ¬ (j : Int) < 0 := by omega
    rw [hl] at C1 C2 C3 hn ⊢
    clear c2 c3 h0 hx hid hidj hl hok hlive
    go_enter Try.func11, Try.ntmps11
    go_wp2_with fail
    refine C1.mono ?_
    rintro e w1 ⟨g, c, rs, rfl, ho, hb1⟩
    have HO : Hid (OwnC g c cs rs w.heap.size w1.heap.size w1) := ho
    have HB1 : Hid (Below w.heap.size w w1) := hb1
    clear C1 ho hb1
    go_wp2_with fail
    refine (C2.out _ HB1.out).mono ?_
    rintro e w2 ⟨rfl, hb2⟩
    have HO2 : Hid (OwnC g c cs rs w.heap.size w2.heap.size w2) := (HO.out.on hb2).more
    have HB2 : Hid (Below w.heap.size w w2) := HB1.out.more hb2 HB1.out.size
    clear hb2 HO HB1 C2
    go_wp2_with fail
    refine (C3.out _ HB2.out).mono ?_
    rintro e w3 ⟨rfl, hm3, hb3⟩
    have hgm : g < w2.heap.size := HO2.out.hi
    have HO3 : Hid (OwnC g c cs rs w.heap.size w2.heap.size w3) := HO2.out.on hb3
    have HB3 : Hid (Below w.heap.size w w3) := HB2.out.more hb3 HB2.out.size
    have hws : w.heap.size ≤ w2.heap.size := HB2.out.size
    have HM3 : Hid (MapII w3 w2.heap.size 4 (liveTo cs 4)) := hm3
    clear hb3 HO2 HB2 C3 hm3
    go_wp2_with (at_delete; refine wpList_del _ rfl _ _ rfl _ _ _ rfl HM3.out id rfl HID.out ?_; intro w4 hm4 hg4; have HO4 : Hid (OwnC g c (dropTo cs j 0) rs w.heap.size w2.heap.size w4) := (by show OwnC _ _ _ _ _ _ _; rw [HST.out]; exact HO3.out.by' hg4 (fun k e => by cases e; right; exact Nat.le_refl _)); have HB4 : Hid (Below w.heap.size w w4) := HB3.out.grown hg4 HB3.out.size (fun k e => by cases e; exact hws); have HM4 : Hid (MapII w4 w2.heap.size 4 (delAt (liveTo cs 4) id)) := hm4; clear hm4 hg4 HM3 HO3 HB3)
    go_loopw [25] (fun i wr => ∃ k : Nat, k ≤ 4 ∧ i = .int .i64 k ∧ Hid (OwnC g c (dropTo cs j k) rs w.heap.size w2.heap.size wr) ∧ Hid (MapII wr w2.heap.size 4 (delAt (liveTo cs 4) id)) ∧ Hid (Below w.heap.size w wr)) (fun i _ => 4 - (intOf i).toNat)
    case atStart => exact ⟨0, Nat.zero_le _, rfl, HO4, HM4, HB4⟩
    case round =>
      obtain ⟨k, hk, rfl, hok, hmk, hbk⟩ := hrel
      clear HO4 HM4 HB4 HST
      by_cases hlt : k < 4
      · have d := hok.out.at'.cell k (by rw [dropTo_length, HL.out]; exact hlt)
        rw [dropTo_at] at d
        obtain ⟨d1, d2⟩ := d
        obtain ⟨g0, g1⟩ := HG.out k hlt
        have hst := HS.out k hlt
        unfold idAt at hst
        have HN : Hid ((dropTo cs j k).set k ((catAt cs k).1, if k = j then false else (catAt cs k).2) = dropTo cs j (k + 1)) := dropTo_next (by rw [HL.out]; exact hlt)
        obtain ⟨x, hxx⟩ : ∃ x, x = (catAt cs k).1 := ⟨_, rfl⟩
        obtain ⟨y, hyy⟩ : ∃ y, y = (catAt cs k).2 := ⟨_, rfl⟩
        obtain ⟨z, hzz⟩ : ∃ z : Bool, z = if k = j then false else (catAt cs k).2 := ⟨_, rfl⟩
        rw [← hzz] at hst HN
        rw [← hxx] at d1 g0 g1 hst HN
        rw [← hyy] at d2
        have hbx : Below wr.heap.size wr (wr.alloc (.cells #[.int .i64 x, .bool y] 43 (0, 0))) := below_alloc _ _
        have O1 := hok.out.on hbx
        have hkl : k < (dropTo cs j k).length := by rw [dropTo_length, HL.out]; exact hlt
        have O2 := O1.at'.setLive k hkl z
        rw [dropTo_at, ← hxx, HN.out] at O2
        have f1 := O1.at'.free (k * 2 + 1)
        have dd := (O1.at'.cell k hkl).2
        have HO5 : Hid (OwnC g c (dropTo cs j (k + 1)) rs w.heap.size w2.heap.size ((wr.alloc (.cells #[.int .i64 x, .bool y] 43 (0, 0))).setCell ⟨g, k * 2 + 1, none⟩ (.bool z))) := ⟨O2, by rw [dropTo_length]; have := O1.cap; rw [dropTo_length] at this; exact this, O1.lo, O1.hi⟩
        have HM5 : Hid (MapII (wr.alloc (.cells #[.int .i64 x, .bool y] 43 (0, 0))) w2.heap.size 4 (delAt (liveTo cs 4) id)) := hmk.out.kept (World.grownBy_alloc _ _ none) (by simp)
        have HM6 : Hid (MapII ((wr.alloc (.cells #[.int .i64 x, .bool y] 43 (0, 0))).setCell ⟨g, k * 2 + 1, none⟩ (.bool z)) w2.heap.size 4 (delAt (liveTo cs 4) id)) := HM5.out.kept (grownBy_set _ _ _ _) (by simp; omega)
        have HB5 : Hid (Below w.heap.size w ((wr.alloc (.cells #[.int .i64 x, .bool y] 43 (0, 0))).setCell ⟨g, k * 2 + 1, none⟩ (.bool z))) := (hbk.out.alloc hbk.out.size _).setCell (p := ⟨g, k * 2 + 1, none⟩) O1.lo _
        have C4 := catId_any k x (wr.alloc (.cells #[.int .i64 x, .bool y] 43 (0, 0))) hlt g0 (by omega)
        have f2 : Hid (Fits64 ((k : Int) + 4 * x)) := show Fits64 _ by unfold Fits64; omega
        have HST : Hid ((delAt (liveTo cs 4) id ((k : Int) + 4 * x)).isSome = z) := hst
        clear hxx hyy hzz hst HN O1 O2 hkl hok hmk hbk hbx g0 g1
        generalize catAt (dropTo cs j k) k = ct at dd
        go_wp2_with (first | (go_at_call 28; refine C4.mono ?_; rintro e w5 ⟨rfl, rfl⟩) | (at_lookup; refine wpList_look_ok _ rfl _ _ rfl _ _ _ rfl HM5.out ((k : Int) + 4 * x) rfl f2.out ?_; rw [HST.out]))
        go_roundw
        case rel => exact ⟨k + 1, by omega, by go_num, HO5, HM6, HB5⟩
        case measure => simp [intOf]; omega
      · obtain rfl : k = 4 := by omega
        have HO6 : Hid (OwnC g c (cs.set j ((catAt cs j).1, false)) rs w.heap.size wr.heap.size wr) := by
          have := hok.out.more
          rw [HEN.out] at this
          exact this
        clear hok hmk
        go_wp2
        go_ret2
        exact dropAns_yes H0.out (by rw [HL.out]; rfl) HO6.out hbk.out

set_option maxHeartbeats 1000000 in
theorem specCatDrop_any (p : Addr) (cap : Nat) (cs : List (Int × Bool)) (id : Int) (w : World) (hx : IsCats w (.slice (some p) cs.length cap) cs) (hn : cs.length ≤ 1048576) (hid : Fits64 id) :
    Calls Try.prog 21 #[.slice (some p) cs.length cap, .int .i64 id] w fun e w' => DropAns cs id w e w' := by
  have c2 := fun w' (hb : Below w.heap.size w w') => specCatOf_any (.slice (some p) cs.length cap) cs id w' (hx.on hb) hn hid
  have HX : Hid (IsCats w (.slice (some p) cs.length cap) cs) := hx
  rcases catOf_cases cs id with h0 | ⟨j, h0, hj, hok, hlive, hidj⟩
  · have H0 : Hid (catOf cs id = -1) := h0
    simp only [h0] at c2
    have C2 : Hid (∀ w', Below w.heap.size w w' → _) := c2
    clear c2 h0 hx hid
    go_enter Try.func21, Try.ntmps21
    go_wp2_with (first | (refine wpList_copyC rfl (.tmp 8) (.tmp 9) rfl w p cap cs cs.length rfl rfl rfl HX.out hn ?_; intro g c rs w1 HO HB1) | fail)
    refine (C2.out _ HB1.out).mono ?_
    rintro e w2 ⟨rfl, hb2⟩
    have HO2 : Hid (OwnC g c cs rs w.heap.size w2.heap.size w2) := (HO.out.on hb2).more
    have HB2 : Hid (Below w.heap.size w w2) := HB1.out.more hb2 HB1.out.size
    clear hb2 HO HB1 C2
    go_wp2
    go_ret2
    exact dropAns_no H0.out rfl HO2.out HB2.out
  · have H0 : Hid (catOf cs id = j) := h0
    have hl := catsOk_four hok
    have HL : Hid (cs.length = 4) := hl
    simp only [h0] at c2
    have C2 : Hid (∀ w', Below w.heap.size w w' → _) := c2
    have hjp : ¬ (j : Int) < 0 := by omega
    rw [hl] at C2 HX hn ⊢
    clear c2 h0 hx hid hidj hl hok hlive
    go_enter Try.func21, Try.ntmps21
    go_wp2_with (first | (refine wpList_copyC rfl (.tmp 8) (.tmp 9) rfl w p cap cs 4 HL.out.symm rfl rfl HX.out (by rw [HL.out]; omega) ?_; intro g c rs w1 HO HB1) | fail)
    refine (C2.out _ HB1.out).mono ?_
    rintro e w2 ⟨rfl, hb2⟩
    have HO2 : Hid (OwnC g c cs rs w.heap.size w2.heap.size w2) := (HO.out.on hb2).more
    have HB2 : Hid (Below w.heap.size w w2) := HB1.out.more hb2 HB1.out.size
    have hjl : j < cs.length := by rw [HL.out]; exact hj
    have dd := (HO2.out.at'.cell j hjl).2
    have f1 := HO2.out.at'.free (j * 2 + 1)
    have HO3 : Hid (OwnC g c (cs.set j ((catAt cs j).1, false)) rs w.heap.size (w2.setCell ⟨g, j * 2 + 1, none⟩ (.bool false)).heap.size (w2.setCell ⟨g, j * 2 + 1, none⟩ (.bool false))) := ⟨HO2.out.at'.setLive j hjl false, by simp only [List.length_set]; exact HO2.out.cap, HO2.out.lo, by simpa using HO2.out.hi⟩
    have HB3 : Hid (Below w.heap.size w (w2.setCell ⟨g, j * 2 + 1, none⟩ (.bool false))) := HB2.out.setCell (p := ⟨g, j * 2 + 1, none⟩) HO2.out.lo _
    generalize (catAt cs j).2 = bb at dd
    clear hb2 HO HB1 C2 HO2 HB2 hjl
    go_wp2
    go_ret2
    exact dropAns_yes H0.out (by rw [HL.out]; rfl) HO3.out HB3.out
end Go.Proofs.Ytjceffhogoedaaa
