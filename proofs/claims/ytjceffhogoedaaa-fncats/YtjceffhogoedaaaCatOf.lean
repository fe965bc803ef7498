/-
  CatOf of the program and of the model.
-/
import Derived.Test.YtjceffhogoedaaaLive
namespace Go.Proofs.Ytjceffhogoedaaa
open Go.RowKit Go.Maps
set_option linter.unusedVariables false

set_option maxHeartbeats 800000 in
theorem implCatOf_any (v : Value) (cs : List (Int × Bool)) (id : Int) (w : World) (hx : IsCats w v cs) (hn : cs.length ≤ 1048576) (hid : Fits64 id) :
    Calls Try.prog 12 #[v, .int .i64 id] w fun e w' => e = .returned (.int .i64 (catOf cs id)) ∧ Below w.heap.size w w' := by
  have C1 := implCatsOk_any v cs w hx hn
  cases hok : catsOk cs with
  | false =>
    rw [hok] at C1
    rw [catOf_no hok]
    clear hx hok
    go_enter Try.func12, Try.ntmps12
    go_wp2_with fail
    refine C1.mono ?_
    rintro e w1 ⟨rfl, hb1⟩
    clear C1
    go_wp2
    go_ret
    exact ⟨rfl, hb1⟩
  | true =>
    rw [hok] at C1
    have C2 : Hid (∀ w', Below w.heap.size w w' → _) := fun w' (hb : Below w.heap.size w w') => livePlaces_any v cs w' (hx.on hb) hok
    obtain ⟨h1, h2⟩ := catOf_live hok id
    have HID : Hid (Fits64 id) := hid
    generalize catOf cs id = r at h1 h2 ⊢
    generalize liveTo cs 4 = f at h1 h2 C2
    clear hx hok hid
    cases hf : f id with
    | none =>
      rw [hf] at h1 h2
      have hr : r = -1 := h1
      subst hr
      have HF : Hid (f id = none) := hf
      clear h1 h2 hf
      go_enter Try.func12, Try.ntmps12
      go_wp2_with fail
      refine C1.mono ?_
      rintro e w1 ⟨rfl, hb1⟩
      clear C1
      go_wp2_with fail
      refine (C2.out _ hb1).mono ?_
      rintro e w2 ⟨rfl, hm, hb2⟩
      have HB2 : Hid (Below w.heap.size w w2) := hb1.more hb2 hb1.size
      clear C2 hb1 hb2
      go_wp2_with (at_lookup; refine wpList_look_ok _ rfl _ _ rfl _ _ _ rfl hm id rfl HID.out ?_; rw [HF.out])
      go_ret
      exact ⟨rfl, HB2.out⟩
    | some k =>
      rw [hf] at h1 h2
      have hr : r = k := h1
      subst hr
      have HF : Hid (f id = some r) := hf
      clear h1 h2 hf
      go_enter Try.func12, Try.ntmps12
      go_wp2_with fail
      refine C1.mono ?_
      rintro e w1 ⟨rfl, hb1⟩
      clear C1
      go_wp2_with fail
      refine (C2.out _ hb1).mono ?_
      rintro e w2 ⟨rfl, hm, hb2⟩
      have HB2 : Hid (Below w.heap.size w w2) := hb1.more hb2 hb1.size
      clear C2 hb1 hb2
      go_wp2_with (at_lookup; refine wpList_look_ok _ rfl _ _ rfl _ _ _ rfl hm id rfl HID.out ?_; rw [HF.out])
      go_ret
      exact ⟨rfl, HB2.out⟩

theorem rem4 (n : Nat) : ((n : Int)).tmod 4 = ((n % 4 : Nat) : Int) := by rw [Int.tmod_eq_emod_of_nonneg (by omega)]; omega
theorem quo4 (n : Nat) : ((n : Int)).tdiv 4 = ((n / 4 : Nat) : Int) := by rw [Int.tdiv_eq_ediv_of_nonneg (by omega)]; omega

set_option maxHeartbeats 800000 in
theorem specCatOf_any (v : Value) (cs : List (Int × Bool)) (id : Int) (w : World) (hx : IsCats w v cs) (hn : cs.length ≤ 1048576) (hid : Fits64 id) :
    Calls Try.prog 22 #[v, .int .i64 id] w fun e w' => e = .returned (.int .i64 (catOf cs id)) ∧ Below w.heap.size w w' := by
  have C1 := specCatsOk_any v cs w hx hn
  cases hok : catsOk cs with
  | false =>
    rw [hok] at C1
    rw [catOf_no hok]
    clear hx hok
    go_enter Try.func22, Try.ntmps22
    go_wp2_with fail
    refine C1.mono ?_
    rintro e w1 ⟨rfl, rfl⟩
    clear C1
    go_wp2
    go_ret
    exact ⟨rfl, Below.refl _ _⟩
  | true =>
    rw [hok] at C1
    by_cases hneg : id < 0
    · have hr : catOf cs id = -1 := by unfold catOf; rw [if_neg (fun h => by omega)]
      rw [hr]
      clear hx hok hr
      go_enter Try.func22, Try.ntmps22
      go_wp2_with fail
      refine C1.mono ?_
      rintro e w1 ⟨rfl, rfl⟩
      clear C1
      go_wp2
      go_ret
      exact ⟨rfl, Below.refl _ _⟩
    · obtain ⟨n, rfl⟩ : ∃ n : Nat, id = n := ⟨id.toNat, by omega⟩
      have hl := catsOk_four hok
      obtain ⟨a, cap, rfl, hcap, _⟩ := id hx
      obtain ⟨p, q, rfl, hq, c1, c2⟩ := hx.at (i := n % 4) (by omega)
      have hv : catOf cs (n : Int) = if (catAt cs (n % 4)).2 = true ∧ (catAt cs (n % 4)).1 = ((n / 4 : Nat) : Int) then ((n % 4 : Nat) : Int) else -1 := by
        unfold catOf
        simp only [hok, Int.toNat_natCast, true_and, show (0 : Int) ≤ (n : Int) by omega]
      rw [hv]
      generalize (catAt cs (n % 4)).1 = x at c1 ⊢
      generalize (catAt cs (n % 4)).2 = b at c2 ⊢
      rw [hl] at hcap C1 ⊢
      have r4 := rem4 n
      have q4 := quo4 n
      have hm : n % 4 < 4 := by omega
      have hneg' : ¬ (n : Int) < 0 := by omega
      obtain ⟨k, hk⟩ : ∃ k, k = n % 4 := ⟨_, rfl⟩
      obtain ⟨d, hd⟩ : ∃ d, d = n / 4 := ⟨_, rfl⟩
      have hdl : (d : Int) ≤ 9223372036854775807 := by unfold Fits64 at hid; omega
      rw [← hk] at r4 hm hq ⊢
      rw [← hd] at q4 ⊢
      clear hx hok hv hl hneg hk hd
      cases b with
      | false =>
        rw [if_neg (by simp)]
        go_enter Try.func22, Try.ntmps22
        go_wp2_with fail
        refine C1.mono ?_
        rintro e w1 ⟨rfl, rfl⟩
        clear C1
        go_wp2
        go_ret
        exact ⟨rfl, Below.refl _ _⟩
      | true =>
        by_cases hxd : x = (d : Int)
        · rw [if_pos ⟨rfl, hxd⟩]
          have hne : (x != (d : Int)) = false := by simp [hxd]
          have hne' : ((d : Int) != (d : Int)) = false := by simp
          subst hxd
          go_enter Try.func22, Try.ntmps22
          go_wp2_with fail
          refine C1.mono ?_
          rintro e w1 ⟨rfl, rfl⟩
          clear C1
          go_wp2
          go_ret
          exact ⟨rfl, Below.refl _ _⟩
        · rw [if_neg (fun h => hxd h.2)]
          have hne : (x != (d : Int)) = true := by simp [hxd]
          go_enter Try.func22, Try.ntmps22
          go_wp2_with fail
          refine C1.mono ?_
          rintro e w1 ⟨rfl, rfl⟩
          clear C1
          go_wp2
          go_ret
          exact ⟨rfl, Below.refl _ _⟩
end Go.Proofs.Ytjceffhogoedaaa
