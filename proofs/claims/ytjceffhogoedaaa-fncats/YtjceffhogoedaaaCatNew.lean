/-
  CatNew of the program and of the model.
-/
import Derived.Test.YtjceffhogoedaaaOwnC
namespace Go.Proofs.Ytjceffhogoedaaa
open Go.RowKit
set_option linter.unusedVariables false

/-- Where the next one is made. -/
def newAt (cs : List (Int × Bool)) : Option Nat := if catsOk cs = true ∧ 0 ≤ firstOf mayMake cs 0 then some (firstOf mayMake cs 0).toNat else none
def newCats (cs : List (Int × Bool)) : List (Int × Bool) := match newAt cs with | some k => cs.set k ((catAt cs k).1 + 1, true) | none => cs
def newId (cs : List (Int × Bool)) : Int := match newAt cs with | some k => (k : Int) + 4 * ((catAt cs k).1 + 1) | none => 0
theorem firstOf_range (P : Int × Bool → Bool) : ∀ (cs : List (Int × Bool)) (k : Nat), firstOf P cs k = -1 ∨ ((k : Int) ≤ firstOf P cs k ∧ firstOf P cs k < (k : Int) + cs.length)
  | [], k => .inl rfl
  | c :: cs, k => by
    unfold firstOf
    by_cases h : P c = true
    · rw [if_pos h]; right; simp; omega
    · rw [if_neg h]
      rcases firstOf_range P cs (k + 1) with h1 | h1
      · exact .inl h1
      · right; simp; omega
theorem newAt_some {cs : List (Int × Bool)} {k : Nat} (hok : catsOk cs = true) (h : firstOf mayMake cs 0 = k) : newAt cs = some k := by unfold newAt; rw [if_pos ⟨hok, by omega⟩, h]; rfl
theorem newAt_none {cs : List (Int × Bool)} (h : firstOf mayMake cs 0 = -1) : newAt cs = none := by unfold newAt; rw [if_neg (fun hh => by omega)]
theorem newAt_wrong {cs : List (Int × Bool)} (h : catsOk cs = false) : newAt cs = none := by unfold newAt; rw [if_neg (fun hh => by rw [h] at hh; exact absurd hh.1 (by simp))]

set_option maxHeartbeats 400000 in
theorem clone_any (p : Addr) (cap : Nat) (cs : List (Int × Bool)) (w : World) (hx : IsCats w (.slice (some p) cs.length cap) cs) (hn : cs.length ≤ 1048576) :
    Calls Try.prog 25 #[.slice (some p) cs.length cap] w fun e w' => ∃ g c rs, e = .returned (.slice (some ⟨g, 0, none⟩) cs.length c) ∧ OwnC g c cs rs w.heap.size w'.heap.size w' ∧ Below w.heap.size w w' := by
  have hq : (binOp .eql 24 (.slice (some p) cs.length cap) (.slice none 0 0)).run Try.prog w = .ok (.bool false) w := run_eql_slice_nil w 24 43 _ _ _ Try.underlying24
  have HX : Hid (IsCats w (.slice (some p) cs.length cap) cs) := hx
  clear hx
  go_enter Try.func25, Try.ntmps25
  go_wp2_with (refine wpList_copyC rfl (.tmp 5) (.tmp 6) rfl w p cap cs cs.length rfl rfl rfl HX.out hn ?_; intro g c rs w' ho hb)
  go_ret
  exact ⟨g, c, rs, rfl, ho.out, hb.out⟩

/-- What CatNew answers. -/
def NewAns (cs : List (Int × Bool)) (w : World) (e : Ending) (w' : World) : Prop :=
  ∃ g c rs, e = .returned (.tuple #[.slice (some ⟨g, 0, none⟩) cs.length c, .int .i64 (newId cs), .bool (newAt cs).isSome]) ∧ OwnC g c (newCats cs) rs w.heap.size w'.heap.size w' ∧ Below w.heap.size w w'
theorem newAns_no {cs : List (Int × Bool)} {w w' : World} {e : Ending} {g c : Nat} {rs : List Value} (h : newAt cs = none) (he : e = .returned (.tuple #[.slice (some ⟨g, 0, none⟩) cs.length c, .int .i64 0, .bool false])) (ho : OwnC g c cs rs w.heap.size w'.heap.size w') (hb : Below w.heap.size w w') : NewAns cs w e w' :=
  ⟨g, c, rs, by rw [he]; unfold newId; rw [h]; rfl, by unfold newCats; rw [h]; exact ho, hb⟩
theorem newAns_yes {cs : List (Int × Bool)} {w w' : World} {e : Ending} {g c k : Nat} {rs : List Value} (h : newAt cs = some k) (he : e = .returned (.tuple #[.slice (some ⟨g, 0, none⟩) cs.length c, .int .i64 ((k : Int) + 4 * ((catAt cs k).1 + 1)), .bool true])) (ho : OwnC g c (cs.set k ((catAt cs k).1 + 1, true)) rs w.heap.size w'.heap.size w') (hb : Below w.heap.size w w') : NewAns cs w e w' :=
  ⟨g, c, rs, by rw [he]; unfold newId; rw [h]; rfl, by unfold newCats; rw [h]; exact ho, hb⟩

set_option maxHeartbeats 1000000 in
theorem implCatNew_any (p : Addr) (cap : Nat) (cs : List (Int × Bool)) (w : World) (hx : IsCats w (.slice (some p) cs.length cap) cs) (hn : cs.length ≤ 1048576) :
    Calls Try.prog 10 #[.slice (some p) cs.length cap] w fun e w' => NewAns cs w e w' := by
  have C1 := clone_any p cap cs w hx hn
  have c2 := fun w' (hb : Below w.heap.size w w') => implCatsOk_any (.slice (some p) cs.length cap) cs w' (hx.on hb) hn
  have c3 := fun v w' (h : IsCats w' v cs) => indexMay_any v cs w' h hn
  have HF : Hid (∀ k : Nat, firstOf mayMake cs 0 = k → catsOk cs = true → newAt cs = some k ∧ k < 4 ∧ 0 ≤ (catAt cs k).1 ∧ (catAt cs k).1 ≤ 999 ∧ cs.length = 4) := fun k h hok => by
    have hl := catsOk_four hok
    have hk : k < 4 := by
      rcases firstOf_range mayMake cs 0 with h1 | h1
      · omega
      · rw [h] at h1; simp at h1; omega
    exact ⟨newAt_some hok h, hk, (catsOk_gen hok hk).1, (catsOk_gen hok hk).2, hl⟩
  have HN : Hid (firstOf mayMake cs 0 = -1 → newAt cs = none) := newAt_none
  have HR : Hid (firstOf mayMake cs 0 = -1 ∨ ∃ k : Nat, firstOf mayMake cs 0 = k) := by
    rcases firstOf_range mayMake cs 0 with h1 | h1
    · exact .inl h1
    · exact .inr ⟨(firstOf mayMake cs 0).toNat, by omega⟩
  clear hx
  cases hok : catsOk cs with
  | false =>
    have H0 : Hid (newAt cs = none) := newAt_wrong hok
    simp only [hok] at c2
    have C2 : Hid (∀ w', Below w.heap.size w w' → _) := c2
    clear c2 c3 hok HF HN HR
    go_enter Try.func10, Try.ntmps10
    go_wp2_with fail
    refine C1.mono ?_
    rintro e w1 ⟨g, c, rs, rfl, ho, hb1⟩
    have HO : Hid (OwnC g c cs rs w.heap.size w1.heap.size w1) := ho
    have HB1 : Hid (Below w.heap.size w w1) := hb1
    clear C1 ho hb1
    go_wp2_with fail
    refine (C2.out _ HB1.out).mono ?_
    rintro e w2 ⟨rfl, hb2⟩
    have HO2 : Hid (OwnC g c cs rs w.heap.size w2.heap.size w2) := ⟨(HO.out.on hb2).at', HO.out.cap, HO.out.lo, Nat.lt_of_lt_of_le HO.out.hi hb2.size⟩
    have HB2 : Hid (Below w.heap.size w w2) := HB1.out.more hb2 HB1.out.size
    clear hb2 HO HB1 C2
    go_wp2
    go_ret3
    exact newAns_no H0.out rfl HO2.out HB2.out
  | true =>
    simp only [hok] at c2
    have C2 : Hid (∀ w', Below w.heap.size w w' → _) := c2
    rcases HR.out with hr | ⟨k, hr⟩
    · have H0 : Hid (newAt cs = none) := HN.out hr
      simp only [hr] at c3
      have C3 : Hid (∀ v w', IsCats w' v cs → _) := c3
      clear c2 c3 hok HF HN HR hr
      go_enter Try.func10, Try.ntmps10
      go_wp2_with fail
      refine C1.mono ?_
      rintro e w1 ⟨g, c, rs, rfl, ho, hb1⟩
      have HO : Hid (OwnC g c cs rs w.heap.size w1.heap.size w1) := ho
      have HB1 : Hid (Below w.heap.size w w1) := hb1
      clear C1 ho hb1
      go_wp2_with fail
      refine (C2.out _ HB1.out).mono ?_
      rintro e w2 ⟨rfl, hb2⟩
      have HO2 : Hid (OwnC g c cs rs w.heap.size w2.heap.size w2) := ⟨(HO.out.on hb2).at', HO.out.cap, HO.out.lo, Nat.lt_of_lt_of_le HO.out.hi hb2.size⟩
      have HB2 : Hid (Below w.heap.size w w2) := HB1.out.more hb2 HB1.out.size
      clear hb2 HO HB1 C2
      go_wp2_with fail
      refine (C3.out _ _ HO2.out.cats).mono ?_
      rintro e w3 ⟨rfl, hb3⟩
      have HO3 : Hid (OwnC g c cs rs w.heap.size w3.heap.size w3) := ⟨(HO2.out.on hb3).at', HO2.out.cap, HO2.out.lo, Nat.lt_of_lt_of_le HO2.out.hi hb3.size⟩
      have HB3 : Hid (Below w.heap.size w w3) := HB2.out.more hb3 HB2.out.size
      clear hb3 HO2 HB2 C3
      go_wp2
      go_ret3
      exact newAns_no H0.out rfl HO3.out HB3.out
    · obtain ⟨hna, hk, g0, g1, hl⟩ := HF.out k hr hok
      have H0 : Hid (newAt cs = some k) := hna
      have HL : Hid (cs.length = 4) := hl
      simp only [hr] at c3
      have C3 : Hid (∀ v w', IsCats w' v cs → _) := c3
      rw [hl] at C1 C2 hn ⊢
      clear c2 c3 hok HF HN HR hr hna hl
      go_enter Try.func10, Try.ntmps10
      go_wp2_with fail
      refine C1.mono ?_
      rintro e w1 ⟨g, c, rs, rfl, ho, hb1⟩
      have HO : Hid (OwnC g c cs rs w.heap.size w1.heap.size w1) := ho
      have HB1 : Hid (Below w.heap.size w w1) := hb1
      clear C1 ho hb1
      go_wp2_with fail
      refine (C2.out _ HB1.out).mono ?_
      rintro e w2 ⟨rfl, hb2⟩
      have HO2 : Hid (OwnC g c cs rs w.heap.size w2.heap.size w2) := ⟨(HO.out.on hb2).at', HO.out.cap, HO.out.lo, Nat.lt_of_lt_of_le HO.out.hi hb2.size⟩
      have HB2 : Hid (Below w.heap.size w w2) := HB1.out.more hb2 HB1.out.size
      clear hb2 HO HB1 C2
      go_wp2_with fail
      refine (C3.out _ _ (HL.out ▸ HO2.out.cats)).mono ?_
      rintro e w3 ⟨rfl, hb3⟩
      have HO3 : Hid (OwnC g c cs rs w.heap.size w3.heap.size w3) := ⟨(HO2.out.on hb3).at', HO2.out.cap, HO2.out.lo, Nat.lt_of_lt_of_le HO2.out.hi hb3.size⟩
      have HB3 : Hid (Below w.heap.size w w3) := HB2.out.more hb3 HB2.out.size
      clear hb3 HO2 HB2 C3
      have hpos : ¬ (k : Int) < 0 := by omega
      have d1 := HO3.out.at'.cell k (by rw [HL.out]; exact hk)
      obtain ⟨d1, d2⟩ := d1
      have f1 := HO3.out.at'.free (k * 2)
      have f2 := HO3.out.at'.free (k * 2 + 1)
      have w1' := HO3.out.at'.setLive k (by rw [HL.out]; exact hk) true
      have e1 := w1'.cell k (by simp only [List.length_set]; rw [HL.out]; exact hk)
      have f3 := w1'.free (k * 2)
      have hc1 : catAt (cs.set k ((catAt cs k).1, true)) k = ((catAt cs k).1, true) := by simp [catAt, HL.out, hk]
      rw [hc1] at e1
      have w2' := w1'.setGen k (by simp only [List.length_set]; rw [HL.out]; exact hk) ((catAt cs k).1 + 1)
      rw [hc1, List.set_set] at w2'
      have e2 := w2'.cell k (by simp only [List.length_set]; rw [HL.out]; exact hk)
      have hc2 : catAt (cs.set k ((catAt cs k).1 + 1, true)) k = ((catAt cs k).1 + 1, true) := by simp [catAt, HL.out, hk]
      rw [hc2] at e2
      have HO4 : Hid (OwnC g c (cs.set k ((catAt cs k).1 + 1, true)) rs w.heap.size ((w3.setCell ⟨g, k * 2 + 1, none⟩ (.bool true)).setCell ⟨g, k * 2, none⟩ (.int .i64 ((catAt cs k).1 + 1))).heap.size ((w3.setCell ⟨g, k * 2 + 1, none⟩ (.bool true)).setCell ⟨g, k * 2, none⟩ (.int .i64 ((catAt cs k).1 + 1)))) := ⟨w2', by simp only [List.length_set]; exact HO3.out.cap, HO3.out.lo, by simpa using HO3.out.hi⟩
      have HB4 : Hid (Below w.heap.size w ((w3.setCell ⟨g, k * 2 + 1, none⟩ (.bool true)).setCell ⟨g, k * 2, none⟩ (.int .i64 ((catAt cs k).1 + 1)))) := (HB3.out.setCell (p := ⟨g, k * 2 + 1, none⟩) HO3.out.lo _).setCell (p := ⟨g, k * 2, none⟩) HO3.out.lo _
      have C4 := catId_any k ((catAt cs k).1 + 1) ((w3.setCell ⟨g, k * 2 + 1, none⟩ (.bool true)).setCell ⟨g, k * 2, none⟩ (.int .i64 ((catAt cs k).1 + 1))) hk (by omega) (by omega)
      obtain ⟨e1, e1'⟩ := e1
      obtain ⟨e2, e2'⟩ := e2
      obtain ⟨x, hx⟩ : ∃ x, x = (catAt cs k).1 := ⟨_, rfl⟩
      have HXG : Hid (x = (catAt cs k).1) := hx
      rw [← hx] at d1 e1 e2 C4 g0 g1
      have hwx : wrap64 (x + 1) = x + 1 := by unfold wrap64; omega
      clear hx w1' w2' hc1 hc2 e1' e2'
      rw [← HXG.out] at HO4 HB4
      go_wp2_with (go_at_call 28; refine C4.mono ?_; rintro e w4 ⟨rfl, rfl⟩)
      go_ret3
      rw [HXG.out] at HO4 HB4 ⊢
      exact newAns_yes H0.out (by rw [HL.out]; rfl) HO4.out HB4.out
end Go.Proofs.Ytjceffhogoedaaa
