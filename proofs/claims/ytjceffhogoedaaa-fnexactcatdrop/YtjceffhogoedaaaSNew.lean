/-
  CatNew of the model.
-/
import Derived.Test.YtjceffhogoedaaaCatNew
namespace Go.Proofs.Ytjceffhogoedaaa
open Go.RowKit
set_option linter.unusedVariables false

set_option maxHeartbeats 1000000 in
theorem specCatNew_any (p : Addr) (cap : Nat) (cs : List (Int × Bool)) (w : World) (hx : IsCats w (.slice (some p) cs.length cap) cs) (hn : cs.length ≤ 1048576) :
    Calls Try.prog 18 #[.slice (some p) cs.length cap] w fun e w' => NewAns cs w e w' := by
  have c2 := fun w' (hb : Below w.heap.size w w') => specCatsOk_any (.slice (some p) cs.length cap) cs w' (hx.on hb) hn
  have HX : Hid (IsCats w (.slice (some p) cs.length cap) cs) := hx
  cases hok : catsOk cs with
  | false =>
    have H0 : Hid (newAt cs = none) := newAt_wrong hok
    simp only [hok] at c2
    have C2 : Hid (∀ w', Below w.heap.size w w' → _) := c2
    clear c2 hok hx
    go_enter Try.func18, Try.ntmps18
    go_wp2_with (first | (refine wpList_copyC rfl (.tmp 7) (.tmp 8) rfl w p cap cs cs.length rfl rfl rfl HX.out hn ?_; intro g c rs w1 ho hb) | fail)
    refine (C2.out _ hb.out).mono ?_
    rintro e w2 ⟨rfl, rfl⟩
    clear C2
    go_wp2
    go_ret3
    exact newAns_no H0.out rfl ho.out hb.out
  | true =>
    simp only [hok] at c2
    have hl := catsOk_four hok
    have HL : Hid (cs.length = 4) := hl
    have HXC : Hid (∀ wr, Below w.heap.size w wr → ∀ i, i < 4 → ∃ q, p.add (i * 2) = q ∧ wr.cell? q = some (.int .i64 (catAt cs i).1) ∧ wr.cell? ⟨q.block, q.off + 1, none⟩ = some (.bool (catAt cs i).2)) := fun wr hb i hi => by
      obtain ⟨p', q, hp, hq, h1, h2⟩ := (hx.on hb).at (i := i) (by omega)
      cases hp
      exact ⟨q, hq, h1, h2⟩
    have HG : Hid (∀ i, i < 4 → 0 ≤ (catAt cs i).1 ∧ (catAt cs i).1 ≤ 999) := fun i hi => catsOk_gen hok hi
    have HY : Hid (∀ k : Nat, firstOf mayMake cs 0 = k → newAt cs = some k) := fun k h => newAt_some hok h
    have HN : Hid (firstOf mayMake cs 0 = -1 → newAt cs = none) := newAt_none
    obtain ⟨f0, hf0⟩ : ∃ r, r = firstOf mayMake cs 0 := ⟨_, rfl⟩
    have HA : Hid (f0 = firstOf mayMake (cs.drop 0) 0) := hf0
    rw [← hf0] at HY HN
    rw [hl] at c2 HX hn ⊢
    have C2 : Hid (∀ w', Below w.heap.size w w' → _) := c2
    clear c2 hok hx hf0 hl
    go_enter Try.func18, Try.ntmps18
    go_wp2_with (first | (refine wpList_copyC rfl (.tmp 7) (.tmp 8) rfl w p cap cs 4 HL.out.symm rfl rfl HX.out (by rw [HL.out]; omega) ?_; intro g c rs w1 ho hb) | fail)
    refine (C2.out _ hb.out).mono ?_
    rintro e w2 ⟨rfl, rfl⟩
    clear C2 HX
    go_wp2
    go_loop [6] (fun i => ∃ k : Nat, k ≤ 4 ∧ i = .int .i64 k ∧ Hid (f0 = firstOf mayMake (cs.drop k) k)) (fun i => 4 - (intOf i).toNat)
    case atStart => exact ⟨0, Nat.zero_le _, rfl, HA⟩
    case round =>
      obtain ⟨k, hk, rfl, ha⟩ := hrel
      clear HA
      by_cases hlt : k < 4
      · obtain ⟨q, hq, c1, c2⟩ := HXC.out w2 hb.out k hlt
        obtain ⟨g0, g1⟩ := HG.out k hlt
        by_cases hm : mayMake (catAt cs k) = true
        · have H0 : Hid (newAt cs = some k) := HY.out k (ha.out.trans (firstOf_at (by rw [HL.out]; exact hlt) hm))
          obtain ⟨hb2, hg2⟩ : (catAt cs k).2 = false ∧ (catAt cs k).1 < 999 := by unfold mayMake at hm; simpa using hm
          rw [hb2] at c2
          have d := ho.out.at'.cell k (by rw [HL.out]; exact hlt)
          obtain ⟨d1, d2⟩ := d
          have f1 := ho.out.at'.free (k * 2)
          have f2 := ho.out.at'.free (k * 2 + 1)
          have wB' := ho.out.at'.setGen k (by rw [HL.out]; exact hlt) ((catAt cs k).1 + 1)
          have wB' := wB'.setLive k (by simp only [List.length_set]; rw [HL.out]; exact hlt) true
          have hc1 : catAt (cs.set k ((catAt cs k).1 + 1, (catAt cs k).2)) k = ((catAt cs k).1 + 1, (catAt cs k).2) := by simp [catAt, HL.out, hlt]
          rw [hc1, List.set_set] at wB'
          have HB4 : Hid (Below w.heap.size w ((w2.setCell ⟨g, k * 2, none⟩ (.int .i64 ((catAt cs k).1 + 1))).setCell ⟨g, k * 2 + 1, none⟩ (.bool true))) := (hb.out.setCell (p := ⟨g, k * 2, none⟩) ho.out.lo _).setCell (p := ⟨g, k * 2 + 1, none⟩) ho.out.lo _
          obtain ⟨q', hq', c3, c4⟩ := HXC.out _ HB4.out k hlt
          rw [hq] at hq'
          subst hq'
          have HO4 : Hid (∀ n, OwnC g c (cs.set k ((catAt cs k).1 + 1, true)) rs w.heap.size (((w2.setCell ⟨g, k * 2, none⟩ (.int .i64 ((catAt cs k).1 + 1))).setCell ⟨g, k * 2 + 1, none⟩ (.bool true)).drewN n).heap.size (((w2.setCell ⟨g, k * 2, none⟩ (.int .i64 ((catAt cs k).1 + 1))).setCell ⟨g, k * 2 + 1, none⟩ (.bool true)).drewN n)) := fun n => ⟨wB', by simp only [List.length_set]; exact ho.out.cap, ho.out.lo, by simpa using ho.out.hi⟩
          obtain ⟨x, hx⟩ : ∃ x, x = (catAt cs k).1 := ⟨_, rfl⟩
          have HXG : Hid (x = (catAt cs k).1) := hx
          rw [← hx] at c1 d1 g0 g1 hg2 c3 HO4 HB4
          have hwx : wrap64 (x + 1) = x + 1 := by unfold wrap64; omega
          have hwx' : IntKind.i64.wrap (x + 1) = x + 1 := by rw [IntKind.wrap_i64]; omega
          have hwm : IntKind.i64.wrap (4 * (x + 1)) = 4 * (x + 1) := by rw [IntKind.wrap_i64]; omega
          have hwa : IntKind.i64.wrap ((k : Int) + 4 * (x + 1)) = (k : Int) + 4 * (x + 1) := by rw [IntKind.wrap_i64]; omega
          clear hx wB' hc1 hm ha c4 hb2
          go_wp2
          go_quiet (fail)
          go_wp2
          go_ret3
          rw [HXG.out] at HO4 HB4 ⊢
          exact newAns_yes H0.out (by rw [HL.out]; rfl) (HO4.out _) (below_drewN HB4.out _)
        · have hm' : mayMake (catAt cs k) = false := by simpa using hm
          have H1 : Hid (f0 = firstOf mayMake (cs.drop (k + 1)) (k + 1)) := ha.out.trans (firstOf_next (by rw [HL.out]; exact hlt) hm')
          clear ha hm
          cases hbv : (catAt cs k).2 with
          | true =>
            rw [hbv] at c2
            generalize (catAt cs k).1 = x at c1
            clear hm' hbv
            go_wp2
            exact ⟨⟨k + 1, by omega, by go_num, H1⟩, by simp [intOf]; omega⟩
          | false =>
            have hge : ¬ (catAt cs k).1 < 999 := by unfold mayMake at hm'; rw [hbv] at hm'; simpa using hm'
            rw [hbv] at c2
            generalize (catAt cs k).1 = x at c1 hge
            clear hm' hbv
            go_wp2
            exact ⟨⟨k + 1, by omega, by go_num, H1⟩, by simp [intOf]; omega⟩
      · obtain rfl : k = 4 := by omega
        have H0 : Hid (newAt cs = none) := HN.out (ha.out.trans (by have := firstOf_end (P := mayMake) cs; rw [HL.out] at this; exact this))
        clear ha
        go_wp2
        go_ret3
        exact newAns_no H0.out (by rw [HL.out]; rfl) ho.out hb.out
end Go.Proofs.Ytjceffhogoedaaa
