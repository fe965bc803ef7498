/-
  The program's own looks at a tree.
-/
import Derived.Test.YtfcenombphodbaaDoorMathOk
import Derived.WalkMore
import Derived.Deep.LoopGhost
namespace Go.Proofs.YtfcenombphodbaaDoor
open Go.RowKit
set_option linter.unusedVariables false
set_option maxRecDepth 100000

theorem implLive_no (a : Option Addr) (n cap : Nat) (i : Int) (w : World) (hn : n ≤ 1048576) (h : i < 0 ∨ (n : Int) ≤ i) :
    Calls Tryd.prog 51 #[.slice a n cap, .int .i64 i] w fun e w' => e = .returned (.bool false) ∧ w = w' := by
  by_cases h0 : i < 0
  · have hd : decide (0 ≤ i) = false := by simp; omega
    clear h
    go_enter Tryd.func51, Tryd.ntmps51
    go_wp2
    go_ret
    exact ⟨rfl, rfl⟩
  · have h1 : (n : Int) ≤ i := by omega
    have hd : decide (0 ≤ i) = true := by simp; omega
    have h2 : ¬ i < (n : Int) := by omega
    clear h
    go_enter Tryd.func51, Tryd.ntmps51
    go_wp2
    go_ret
    exact ⟨rfl, rfl⟩
theorem implLive_in (p : Addr) (n cap m : Nat) (l : Bool) (w : World) (hn : n ≤ 1048576) (hm : m < n) (q : Addr) (hq : p.add (m * 5) = q) (hc : w.cell? q = some (.bool l)) :
    Calls Tryd.prog 51 #[.slice (some p) n cap, .int .i64 (m : Int)] w fun e w' => e = .returned (.bool l) ∧ w = w' := by
  go_enter Tryd.func51, Tryd.ntmps51
  go_wp2
  go_ret
  exact ⟨by simp, rfl⟩
theorem implLive_any (v : Value) (ts : List Re) (i : Int) (w : World) (hx : IsTree w v ts) (hn : ts.length ≤ 1048576) :
    Calls Tryd.prog 51 #[v, .int .i64 i] w fun e w' => e = .returned (.bool (livePl ts i)) ∧ w = w' := by
  have hx0 := hx
  obtain ⟨a, cap, rfl, hcap, _⟩ := hx
  by_cases h : i < 0 ∨ (ts.length : Int) ≤ i
  · have e : livePl ts i = false := by
      unfold livePl
      rcases h with h | h
      · rw [show decide (0 ≤ i) = false by simp; omega]; rfl
      · rw [show decide (i < (ts.length : Int)) = false by simp; omega]; simp
    rw [e]
    exact implLive_no a _ cap i w hn h
  · obtain ⟨m, rfl⟩ : ∃ m : Nat, i = (m : Int) := ⟨i.toNat, by omega⟩
    have hm : m < ts.length := by omega
    rw [livePl_nat hm]
    obtain ⟨p, q, rfl, hq, hc⟩ := hx0.at hm
    exact implLive_in p _ cap m _ w hn hm q hq hc.c0

set_option maxHeartbeats 2000000 in
theorem implDead_any (a : Option Addr) (cap : Nat) (ts : List Re) (w : World) (hx : IsTree w (.slice a 5 cap) ts) (hl : ts.length = 5) (hcap : 5 ≤ cap) (ans : Bool) (hans : ans = deadZ ts) :
    Calls Tryd.prog 75 #[.slice a 5 cap] w fun e w' => e = .returned (.bool ans) ∧ Below w.heap.size w w' := by
  have HX : Hid (IsTree w (.slice a 5 cap) ts) := hx
  have HL : Hid (ts.length = 5) := hl
  have HNO : Hid (∀ i, i < 5 → ((reAt ts i).live || isZero (reAt ts i)) = false → ans = false) := fun i hi h => by
    rw [hans]; unfold deadZ
    exact List.all_eq_false.2 ⟨i, List.mem_range.2 hi, by rw [h]; simp⟩
  have HYES : Hid ((∀ i, i < 5 → ((reAt ts i).live || isZero (reAt ts i)) = true) → ans = true) := fun h => by
    rw [hans]; unfold deadZ
    exact List.all_eq_true.2 fun i hi => h i (List.mem_range.1 hi)
  clear hx hl hans
  go_enter Tryd.func75, Tryd.ntmps75
  go_wp2
  go_loopw [7] (fun i wr => ∃ k : Nat, k ≤ 5 ∧ i = .int .i64 k ∧ Hid (∀ i, i < k → ((reAt ts i).live || isZero (reAt ts i)) = true) ∧ Hid (Below w.heap.size w wr)) (fun i _ => 5 - (intOf i).toNat)
  case atStart => exact ⟨0, Nat.zero_le _, rfl, hid_of (fun i hi => absurd hi (Nat.not_lt_zero _)), hid_of (Below.refl _ _)⟩
  case round =>
    obtain ⟨k, hk, rfl, HI, HB⟩ := hrel
    by_cases hlt : k < 5
    · obtain ⟨p, q, rfl, hq, hcw⟩ := HX.out.at (i := k) (by rw [HL.out]; exact hlt)
      obtain ⟨c0, c1, c2, c3, c4⟩ := hcw.on HB.out
      have HN : Hid (((reAt ts k).live || isZero (reAt ts k)) = true → ∀ i, i < k + 1 → ((reAt ts i).live || isZero (reAt ts i)) = true) := fun h i hi => by
        by_cases he : i = k
        · rw [he]; exact h
        · exact HI.out i (by omega)
      have HF : Hid (((reAt ts k).live || isZero (reAt ts k)) = false → ans = false) := HNO.out k hlt
      obtain ⟨r, hr⟩ : ∃ r, reAt ts k = r := ⟨_, rfl⟩
      rw [hr] at c0 c1 c2 c3 c4 HF
      have HN' : Hid ((r.live || isZero r) = true → ∀ i, i < k + 1 → ((reAt ts i).live || isZero (reAt ts i)) = true) := fun h => HN.out (by rw [hr]; exact h)
      clear hr hcw HN HI
      obtain ⟨l, p1, x, y, z⟩ := r
      simp only at c0 c1 c2 c3 c4
      cases l with
      | true =>
        have HN2 := hid_of (HN'.out rfl)
        clear HN' HF
        go_wp2
        go_roundw
        case rel => exact ⟨k + 1, by omega, by go_num, HN2, hid_of (below_more HB.out (by go_grown))⟩
        case measure => simp [intOf]; omega
      | false =>
        by_cases hz : p1 = 0 ∧ x = 0 ∧ y = 0 ∧ z = 0
        · obtain ⟨rfl, rfl, rfl, rfl⟩ := hz
          have HN2 := hid_of (HN'.out rfl)
          clear HN' HF
          go_wp2
          go_roundw
          case rel => exact ⟨k + 1, by omega, by go_num, HN2, hid_of (below_more HB.out (by go_grown))⟩
          case measure => simp [intOf]; omega
        · have HF2 : Hid (ans = false) := HF.out (by simp [isZero]; omega)
          clear HN' HF
          by_cases z0 : p1 = 0
          · by_cases z1 : x = 0
            · by_cases z2 : y = 0
              · have z3 : ¬ z = 0 := fun h => hz ⟨z0, z1, z2, h⟩
                clear hz
                subst z0 z1 z2
                go_wp2
                go_ret
                exact ⟨by rw [HF2.out]; rfl, below_more HB.out (by go_grown)⟩
              · clear hz
                subst z0 z1
                go_wp2
                go_ret
                exact ⟨by rw [HF2.out]; rfl, below_more HB.out (by go_grown)⟩
            · clear hz
              subst z0
              go_wp2
              go_ret
              exact ⟨by rw [HF2.out]; rfl, below_more HB.out (by go_grown)⟩
          · clear hz
            go_wp2
            go_ret
            exact ⟨by rw [HF2.out]; rfl, below_more HB.out (by go_grown)⟩
    · obtain rfl : k = 5 := by omega
      have HT : Hid (ans = true) := HYES.out HI.out
      go_wp2
      go_ret
      exact ⟨by rw [HT.out]; rfl, HB.out⟩

set_option maxHeartbeats 2000000 in
theorem implClimb_any (a : Option Addr) (cap : Nat) (ts : List Re) (w : World) (hx : IsTree w (.slice a 5 cap) ts) (hl : ts.length = 5) (hcap : 5 ≤ cap) (ans : Bool) (hans : ans = allClimb ts) :
    Calls Tryd.prog 76 #[.slice a 5 cap] w fun e w' => e = .returned (.bool ans) ∧ w = w' := by
  have HX : Hid (IsTree w (.slice a 5 cap) ts) := hx
  have HL : Hid (ts.length = 5) := hl
  have HNO : Hid (∀ i, i < 5 → climbs ts i = false → ans = false) := fun i hi h => by
    rw [hans]; unfold allClimb
    exact List.all_eq_false.2 ⟨i, List.mem_range.2 hi, by rw [h]; simp⟩
  have HYES : Hid ((∀ i, i < 5 → climbs ts i = true) → ans = true) := fun h => by
    rw [hans]; unfold allClimb
    exact List.all_eq_true.2 fun i hi => h i (List.mem_range.1 hi)
  have HC : Hid (∀ i : Int, Calls Tryd.prog 51 #[.slice a 5 cap, .int .i64 i] w fun e w' => e = .returned (.bool (livePl ts i)) ∧ w = w') := fun i => by
    have := implLive_any (.slice a ts.length cap) ts i w (by rw [hl]; exact hx) (by omega)
    rw [hl] at this
    exact this
  clear hx hl hans
  go_enter Tryd.func76, Tryd.ntmps76
  go_wp2
  go_step3
  go_wp2
  go_step3
  go_wp2
  go_loop [7] (fun i => ∃ k : Nat, k ≤ 5 ∧ i = .int .i64 k ∧ Hid (∀ i, i < k → climbs ts i = true)) (fun i => 5 - (intOf i).toNat)
  case atStart => exact ⟨0, Nat.zero_le _, rfl, hid_of (fun i hi => absurd hi (Nat.not_lt_zero _))⟩
  case round =>
    obtain ⟨k, hk, rfl, HI⟩ := hrel
    by_cases hlt : k < 5
    · obtain ⟨p, q, rfl, hq, hcw⟩ := HX.out.at (i := k) (by rw [HL.out]; exact hlt)
      have c0 := hcw.c0
      have HN : Hid (climbs ts k = true → ∀ i, i < k + 1 → climbs ts i = true) := fun h i hi => by
        by_cases he : i = k
        · rw [he]; exact h
        · exact HI.out i (by omega)
      have HF : Hid (climbs ts k = false → ans = false) := HNO.out k hlt
      obtain ⟨l, hl2⟩ : ∃ l, (reAt ts k).live = l := ⟨_, rfl⟩
      rw [hl2] at c0
      have hd : decide ((k : Int) < 5) = true := by simp; omega
      cases l with
      | false =>
        have HN2 : Hid (∀ i, i < k + 1 → climbs ts i = true) := HN.out (by simp [climbs, hl2])
        clear hl2 hcw HN HF HI
        go_wp2
        exact ⟨⟨k + 1, by omega, by go_num, HN2⟩, by simp [intOf]; omega⟩
      | true =>
        have hcl : climbs ts k = climb ts 5 (k : Int) := by simp [climbs, hl2]
        rw [hcl] at HN HF
        clear hl2 hcw HI hcl
        go_wp2
        try simp only [hd]
        go_loop [19, 4] (fun n at' => ∃ j A : Nat, j ≤ 5 ∧ n = .int .i64 j ∧ at' = .int .i64 A ∧ A < 5 ∧ Hid (climb ts 5 (k : Int) = climb ts (5 - j) (A : Int))) (fun n _ => 5 - (intOf n).toNat)
        case atStart => exact ⟨0, k, by omega, rfl, rfl, hlt, hid_of rfl⟩
        case round =>
          obtain ⟨j, A, hj, rfl, rfl, hA, HU⟩ := hrel
          by_cases hj5 : j < 5
          · by_cases hA0 : A = 0
            · have HN2 : Hid (∀ i, i < k + 1 → climbs ts i = true) := HN.out (by rw [HU.out, hA0, show 5 - j = (4 - j) + 1 by omega]; exact climb_zero ts _)
              subst hA0
              clear HN HF HU
              go_wp2
              exact ⟨⟨k + 1, by omega, by go_num, HN2⟩, by simp [intOf]; omega⟩
            · have hA1 : 0 < A := by omega
              obtain ⟨p', qa, hpp, hqa, hca⟩ := HX.out.at (i := A) (by rw [HL.out]; exact hA)
              cases hpp
              have c1 := hca.c1
              have HU1 : Hid (climb ts 5 (k : Int) = (livePl ts (reAt ts A).par && climb ts (5 - (j + 1)) (reAt ts A).par)) := by
                show _ = _
                rw [HU.out, show 5 - j = (5 - (j + 1)) + 1 by omega, climb_up ts _ A hA1]
              have C := HC.out (reAt ts A).par
              generalize (reAt ts A).par = p1 at c1 HU1 C
              obtain ⟨o, ho⟩ : ∃ o, livePl ts p1 = o := ⟨_, rfl⟩
              rw [ho] at C
              have HO : Hid (livePl ts p1 = o) := ho
              have hA2 : ¬ ((A : Int) = 0) := by omega
              clear ho hca HU
              cases o with
              | false =>
                have HF2 : Hid (ans = false) := HF.out (by rw [HU1.out, HO.out]; rfl)
                clear HU1 HN HF HO
                go_wp2_with fail
                refine C.mono ?_
                rintro e w' ⟨rfl, rfl⟩
                clear C
                go_wp2
                (try rw [Exit.noGoto_ret])
                go_ret
                exact ⟨by rw [HF2.out]; rfl, rfl⟩
              | true =>
                obtain ⟨m, hm, hm5, hml⟩ := livePl_yes HO.out
                subst hm
                have hm5' : m < 5 := by have := HL.out; omega
                have HU2 : Hid (climb ts 5 (k : Int) = climb ts (5 - (j + 1)) (m : Int)) := by show _ = _; rw [HU1.out, HO.out]; rfl
                clear HU1 HO hml hm5
                go_wp2_with fail
                refine C.mono ?_
                rintro e w' ⟨rfl, rfl⟩
                clear C
                go_wp2
                exact ⟨⟨j + 1, m, by omega, by go_num, rfl, hm5', HU2⟩, by simp [intOf]; omega⟩
          · obtain rfl : j = 5 := by omega
            have HF2 : Hid (ans = false) := HF.out (by rw [HU.out]; rfl)
            clear HU HN HF
            go_wp2
            (try rw [Exit.noGoto_ret])
            go_ret
            exact ⟨by rw [HF2.out]; rfl, rfl⟩
    · obtain rfl : k = 5 := by omega
      have HT : Hid (ans = true) := HYES.out HI.out
      go_wp2
      (try rw [Exit.noGoto_ret])
      go_ret
      exact ⟨by rw [HT.out]; rfl, rfl⟩
end Go.Proofs.YtfcenombphodbaaDoor
