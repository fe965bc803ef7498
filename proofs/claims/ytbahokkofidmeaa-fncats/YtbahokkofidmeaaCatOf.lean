/-
  CatOf of the program and of the model.
-/
import Derived.Test.YtbahokkofidmeaaLive
namespace Go.Proofs.Ytbahokkofidmeaa
open Go.RowKit Go.Maps
set_option linter.unusedVariables false

set_option maxHeartbeats 800000 in
theorem implCatOf_any (v : Value) (cs : List (Int × Bool)) (id : Int) (w : World) (hx : IsCats w v cs) (hn : cs.length ≤ 1048576) (hid : Fits64 id) :
    Calls Try.prog 20 #[v, .int .i64 id] w fun e w' => e = .returned (.int .i64 (catOf cs id)) ∧ Below w.heap.size w w' := by
  have C1 := implCatsOk_any v cs w hx hn
  cases hok : catsOk cs with
  | false =>
    rw [hok] at C1
    rw [catOf_no hok]
    clear hx hok
    go_enter Try.func20, Try.ntmps20
    go_wp2_with fail
    refine C1.mono ?_
    rintro e w1 ⟨rfl, hb1⟩
    clear C1
    go_wp2
    go_ret
    exact ⟨rfl, hb1⟩
  | true =>
    rw [hok] at C1
    have C2 : Hid (∀ w', Below w.heap.size w w' → _) := fun w' (hb : Below w.heap.size w w') => livePlaces_any v cs w' (hx.on hb) hok
    obtain ⟨h1, h2⟩ := catOf_live hok id
    have HID : Hid (Fits64 id) := hid
    generalize catOf cs id = r at h1 h2 ⊢
    generalize liveTo cs 4 = f at h1 h2 C2
    clear hx hok hid
    cases hf : f id with
    | none =>
      rw [hf] at h1 h2
      have hr : r = -1 := h1
      subst hr
      have HF : Hid (f id = none) := hf
      clear h1 h2 hf
      go_enter Try.func20, Try.ntmps20
      go_wp2_with fail
      refine C1.mono ?_
      rintro e w1 ⟨rfl, hb1⟩
      clear C1
      go_wp2_with fail
      refine (C2.out _ hb1).mono ?_
      rintro e w2 ⟨rfl, hm, hb2⟩
      have HB2 : Hid (Below w.heap.size w w2) := hb1.more hb2 hb1.size
      clear C2 hb1 hb2
      go_wp2_with (at_lookup; refine wpList_look_ok _ rfl _ _ rfl _ _ _ rfl hm id rfl HID.out ?_; rw [HF.out])
      go_ret
      exact ⟨rfl, HB2.out⟩
    | some k =>
      rw [hf] at h1 h2
      have hr : r = k := h1
      subst hr
      have HF : Hid (f id = some r) := hf
      clear h1 h2 hf
      go_enter Try.func20, Try.ntmps20
      go_wp2_with fail
      refine C1.mono ?_
      rintro e w1 ⟨rfl, hb1⟩
      clear C1
      go_wp2_with fail
      refine (C2.out _ hb1).mono ?_
      rintro e w2 ⟨rfl, hm, hb2⟩
      have HB2 : Hid (Below w.heap.size w w2) := hb1.more hb2 hb1.size
      clear C2 hb1 hb2
      go_wp2_with (at_lookup; refine wpList_look_ok _ rfl _ _ rfl _ _ _ rfl hm id rfl HID.out ?_; rw [HF.out])
      go_ret
      exact ⟨rfl, HB2.out⟩

theorem rem4 (n : Nat) : ((n : Int)).tmod 4 = ((n % 4 : Nat) : Int) := by rw [Int.tmod_eq_emod_of_nonneg (by omega)]; omega
theorem quo4 (n : Nat) : ((n : Int)).tdiv 4 = ((n / 4 : Nat) : Int) := by rw [Int.tdiv_eq_ediv_of_nonneg (by omega)]; omega

end Go.Proofs.Ytbahokkofidmeaa
