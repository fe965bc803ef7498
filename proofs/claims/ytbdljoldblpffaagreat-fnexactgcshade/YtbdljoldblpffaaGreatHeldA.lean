/-
  Marks on an arena, held.
-/
import Derived.Test.YtbdljoldblpffaaGreatMarkA
namespace Go.Proofs.YtbdljoldblpffaaGreat
open Go.RowKit
set_option linter.unusedVariables false
set_option maxRecDepth 100000

set_option maxRecDepth 100000 in
set_option maxHeartbeats 8000000 in
theorem heldObjS_up (v : Value) (os : List Ob) (w : World) (hx : IsArena w v (upArena 1 os)) (hl : ((os.length : Int) + arN os) ≤ 1048576) :
    Calls Tryz.prog 36 #[v, .int .i64 1] w fun e w' => e = .returned (.int .i64 (1 + stepS os)) ∧ w = w' := by
  obtain ⟨a, cap, rfl, hcap, _⟩ := id hx
  rw [upArena_length] at hcap hx ⊢
  have HX : Hid (∀ i, i < os.length → ∃ p q l d mm, a = some p ∧ p.add (i * 13) = q ∧ ObCells w q (upOb (1 + stepS (os.take i)) (obAt os i)) l d mm ∧ Lists w l d mm (upOb (1 + stepS (os.take i)) (obAt os i))) := fun i hi => by
    obtain ⟨p, q, l, d, mm, e1, e2, e3, e4⟩ := hx.at (i := i) (by rw [upArena_length]; exact hi)
    rw [upArena_at 1 hi] at e3 e4
    exact ⟨p, q, l, d, mm, e1, e2, e3, e4⟩
  have HNL := hid_of hl
  have hn6 : os.length ≤ 1048576 := by omega
  have hne : ∀ x : Int, (x != x) = false := by simp
  clear hx hl
  go_enter Tryz.func36, Tryz.ntmps36
  go_wp2
  go_loop [1, 5] (fun q i => ∃ (k : Nat) (m : Int), k ≤ os.length ∧ i = .int .i64 k ∧ q = .int .i64 m ∧ Hid (m = 1 + stepS (os.take k))) (fun _ i => os.length - (intOf i).toNat)
  case atStart => exact ⟨0, _, Nat.zero_le _, rfl, rfl, by show _ = _; simp [stepS]⟩
  case round =>
    obtain ⟨k, m, hk, rfl, rfl, hm⟩ := hrel
    by_cases hlt : k < os.length
    · obtain ⟨p, q, l, d, mm, rfl, hq, hc, hu⟩ := HX.out k hlt
      rw [← hm.out] at hc hu
      have hsb := stepS_take_bound os k
      have hob2 := obAt_le os k
      have hmb : 0 ≤ m ∧ m ≤ 20000000 := by have h1 := hm.out; have h2 := HNL.out; omega
      have HMM : Hid (m + 1 + 1 + 1 + 1 + 1 + 1 + 1 + 1 + 1 + 1 + (((obAt os k).ls.length : Nat) : Int) + (((obAt os k).ds.length : Nat) : Int) + 2 * (((obAt os k).qs.length : Nat) : Int) = 1 + stepS (os.take (k + 1))) := by
        have e1 := stepS_take hlt
        have e2 := hm.out
        unfold stepN at e1
        show _ = _
        omega
      generalize obAt os k = o at hc hu hob2 HMM
      unfold obN at hob2
      have hnl := HNL.out
      have hb3 : (o.ls.length : Int) ≤ 1048576 ∧ (o.ds.length : Int) ≤ 1048576 ∧ (o.qs.length : Int) ≤ 1048576 := by omega
      have c0 : w.cell? q = some (.int .i64 (m)) := hc.c0
      have c1 : w.cell? ⟨q.block, q.off + 1, none⟩ = some (.int .i64 (m + 1)) := hc.c1
      have c2 : w.cell? ⟨q.block, q.off + 2, none⟩ = some (.int .i64 (m + 1 + 1)) := hc.c2
      have c3 : w.cell? ⟨q.block, q.off + 3, none⟩ = some (.int .i64 (m + 1 + 1 + 1)) := hc.c3
      have c4 : w.cell? ⟨q.block, q.off + 4, none⟩ = some (.int .i64 (m + 1 + 1 + 1 + 1)) := hc.c4
      have c5 : w.cell? ⟨q.block, q.off + 5, none⟩ = some (.int .i64 (m + 1 + 1 + 1 + 1 + 1)) := hc.c5
      have c6 : w.cell? ⟨q.block, q.off + 6, none⟩ = some (.int .i64 (m + 1 + 1 + 1 + 1 + 1 + 1)) := hc.c6
      have c7 : w.cell? ⟨q.block, q.off + 7, none⟩ = some (.int .i64 (m + 1 + 1 + 1 + 1 + 1 + 1 + 1)) := hc.c7
      have c8 : w.cell? ⟨q.block, q.off + 8, none⟩ = some (.int .i64 (m + 1 + 1 + 1 + 1 + 1 + 1 + 1 + 1)) := hc.c8
      obtain ⟨tb, htb⟩ : ∃ tb, tb = thirdB (m + 1 + 1 + 1 + 1 + 1 + 1 + 1 + 1 + 1) := ⟨_, rfl⟩
      have c9 : w.cell? ⟨q.block, q.off + 9, none⟩ = some (.bool tb) := by rw [htb]; exact hc.c9
      have ht : ((m + 1 + 1 + 1 + 1 + 1 + 1 + 1 + 1 + 1).tmod 3 == 0) = tb := htb.symm
      have ht2 : ((m + 1 + 1 + 1 + 1 + 1 + 1 + 1 + 1 + 1) % 3 == 0) = tb := by rw [← ht, Int.tmod_eq_emod_of_nonneg (by omega)]
      have htt : (tb != tb) = false := by simp
      have c10 := hc.c10
      have c11 := hc.c11
      have c12 := hc.c12
      have C1 := heldIntS_up l o.ls.length (m + 1 + 1 + 1 + 1 + 1 + 1 + 1 + 1 + 1 + 1) w hu.ls (by omega) (by omega) (by omega)
      have C2 := heldIntS_up d o.ds.length (m + 1 + 1 + 1 + 1 + 1 + 1 + 1 + 1 + 1 + 1 + o.ls.length) w hu.ds (by omega) (by omega) (by omega)
      have C3 := heldMsgS_up mm o.qs.length (m + 1 + 1 + 1 + 1 + 1 + 1 + 1 + 1 + 1 + 1 + o.ls.length + o.ds.length) w hu.qs (by omega) (by omega) (by omega)
      have hw0 : wrap64 (m + 1) = m + 1 := by unfold wrap64; omega
      have hw1 : wrap64 (m + 1 + 1) = m + 1 + 1 := by unfold wrap64; omega
      have hw2 : wrap64 (m + 1 + 1 + 1) = m + 1 + 1 + 1 := by unfold wrap64; omega
      have hw3 : wrap64 (m + 1 + 1 + 1 + 1) = m + 1 + 1 + 1 + 1 := by unfold wrap64; omega
      have hw4 : wrap64 (m + 1 + 1 + 1 + 1 + 1) = m + 1 + 1 + 1 + 1 + 1 := by unfold wrap64; omega
      have hw5 : wrap64 (m + 1 + 1 + 1 + 1 + 1 + 1) = m + 1 + 1 + 1 + 1 + 1 + 1 := by unfold wrap64; omega
      have hw6 : wrap64 (m + 1 + 1 + 1 + 1 + 1 + 1 + 1) = m + 1 + 1 + 1 + 1 + 1 + 1 + 1 := by unfold wrap64; omega
      have hw7 : wrap64 (m + 1 + 1 + 1 + 1 + 1 + 1 + 1 + 1) = m + 1 + 1 + 1 + 1 + 1 + 1 + 1 + 1 := by unfold wrap64; omega
      have hw8 : wrap64 (m + 1 + 1 + 1 + 1 + 1 + 1 + 1 + 1 + 1) = m + 1 + 1 + 1 + 1 + 1 + 1 + 1 + 1 + 1 := by unfold wrap64; omega
      have hw9 : wrap64 (m + 1 + 1 + 1 + 1 + 1 + 1 + 1 + 1 + 1 + 1) = m + 1 + 1 + 1 + 1 + 1 + 1 + 1 + 1 + 1 + 1 := by unfold wrap64; omega
      have n1 : ¬ (m + 1 + 1 + 1 + 1 + 1 + 1 + 1 + 1 + 1 + 1 + (o.ls.length : Int) < 0) := by omega
      have n2 : ¬ (m + 1 + 1 + 1 + 1 + 1 + 1 + 1 + 1 + 1 + 1 + (o.ls.length : Int) + (o.ds.length : Int) < 0) := by omega
      have n3 : ¬ (m + 1 + 1 + 1 + 1 + 1 + 1 + 1 + 1 + 1 + 1 + (o.ls.length : Int) + (o.ds.length : Int) + 2 * (o.qs.length : Int) < 0) := by omega
      clear hc hu hsb hob2 hnl htb hm
      go_wp2_with fail
      refine C1.mono ?_
      rintro e w1 ⟨rfl, rfl⟩
      clear C1
      go_wp2_with fail
      refine C2.mono ?_
      rintro e w1 ⟨rfl, rfl⟩
      clear C2
      go_wp2_with fail
      refine C3.mono ?_
      rintro e w1 ⟨rfl, rfl⟩
      clear C3
      go_wp2
      exact ⟨⟨k + 1, _, by omega, by go_num, rfl, HMM⟩, by simp [intOf]; omega⟩
    · have hke : k = os.length := by omega
      have HE : Hid (m = 1 + stepS os) := by
        have e := hm.out
        rw [hke, List.take_length] at e
        exact e
      clear hm hke
      go_wp2
      go_ret
      exact ⟨by rw [HE.out]; rfl, rfl⟩
end Go.Proofs.YtbdljoldblpffaaGreat
