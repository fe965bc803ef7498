/-
  The law's own 'big'. What is put, what is freed: told of the plain answers. Things put and freed: the law, walked. The law of things put and freed: every code.
-/
import Derived.Test.YtokicnopfmokaaaDraw28
import Derived.Test.YtokicnopfmokaaaPut9
import Derived.Test.YtokicnopfmokaaaCap9
import Derived.Test.YtokicnopfmokaaaSameT9
import Derived.Test.YtokicnopfmokaaaOne11
import Derived.Test.YtokicnopfmokaaaRows
import Derived.WalkKit
import Derived.ProofKit
import Derived.OpenShut
import Derived.ShutString
import Derived.ChangeOld
import Derived.Below
namespace Go.Proofs.Ytokicnopfmokaaa
open Go.RowKit
set_option linter.unusedVariables false
set_option maxRecDepth 100000

set_option maxHeartbeats 400000 in
theorem big_yes (w : World) (a : Option Addr) (len cap : Nat) (h : (1048576 : Int) < (len : Int)) :
    Calls Try.prog 4 #[.slice a len cap] w fun e w' => e = .returned (.bool true) ∧ w = w' := by
  go_enter Try.func4, Try.ntmps4
  go_wp2
  go_ret
  exact ⟨by simp, rfl⟩
set_option maxHeartbeats 400000 in
theorem big_no (w : World) (a : Option Addr) (len cap : Nat) (h : ¬ (1048576 : Int) < (len : Int)) :
    Calls Try.prog 4 #[.slice a len cap] w fun e w' => e = .returned (.bool false) ∧ w = w' := by
  go_enter Try.func4, Try.ntmps4
  go_wp2
  go_ret
  exact ⟨by simp, rfl⟩
end Go.Proofs.Ytokicnopfmokaaa
namespace Go.Proofs.Ytokicnopfmokaaa
open Go.RowKit
set_option linter.unusedVariables false
set_option maxRecDepth 100000

theorem put_yes {os : List Ob} {o : Ob} (h : putB os o = true) : ∃ k : Nat, putI os o = (k : Int) ∧ (1 ≤ k ∧ k < 10) ∧ os.length = 10 ∧ (arenaOk os = true ∧ arenaOk (putOf os o) = true) ∧ (obAt os k).kind = 0 ∧ (obAt (putOf os o) k).gen = (obAt os k).gen + 1 ∧ (obAt (putOf os o) k).kind = o.kind ∧ o.kind ≠ 0 ∧ 0 ≤ (obAt os k).gen ∧ (obAt os k).gen ≤ 998 := by
  have hb := h
  unfold putB at h
  simp only [Bool.and_eq_true, decide_eq_true_eq, Bool.not_eq_true', beq_eq_false_iff_ne] at h
  obtain ⟨h1, h2, h3, h4⟩ := h
  obtain ⟨k, hk⟩ : ∃ k : Nat, firstFill os = (k : Int) := ⟨(firstFill os).toNat, by omega⟩
  obtain ⟨hkl, hf⟩ := firstFill_fills hk
  have hlen := (arenaOk_parts h1).1
  have hk0 : k ≠ 0 := fun e => by
    subst e
    rw [fills_zero h1] at hf
    cases hf
  have hfl : (obAt os k).kind = 0 ∧ (obAt os k).gen < 999 := by
    unfold fills at hf
    simp only [Bool.and_eq_true, decide_eq_true_eq, beq_iff_eq] at hf
    exact hf
  have hg := ok_gen h1 (i := k) (by omega)
  have e1 : putOf os o = putL os o k := by
    unfold putOf
    rw [hb, hk, Int.toNat_natCast, if_pos rfl]
  have e2 : obAt (putL os o k) k = { o with gen := (obAt os k).gen + 1 } := by
    unfold putL
    rw [obAt_set _ _ hkl, if_pos rfl]
  rw [hk, Int.toNat_natCast] at h4
  refine ⟨k, by unfold putI; rw [hb, if_pos rfl]; exact hk, ⟨by omega, by omega⟩, hlen, ⟨h1, by rw [e1]; exact h4⟩, hfl.1, by rw [e1, e2], by rw [e1, e2], h2, hg.1, by omega⟩
theorem free_set {os : List Ob} {k : Nat} (h : freeB os (k : Int) = true) (hk : k < os.length) {j : Nat} (hj : j < os.length) : obAt (freeOf os k) j = unO k (if j = k then newO (obAt os k).gen else obAt os j) := by
  unfold freeOf
  rw [h, if_pos rfl, Int.toNat_natCast, obAt_map _ _ (by rw [List.length_set]; exact hj), obAt_set _ _ hk]
theorem free_yes {os : List Ob} {k : Nat} (hok : arenaOk os = true) (h1 : 1 ≤ k) (h9 : k < 10) (hz : (obAt os k).kind ≠ 0) : freeB os (k : Int) = true ∧ arenaOk (freeOf os k) = true ∧ (obAt (freeOf os k) k).kind = 0 ∧ (obAt (freeOf os k) k).gen = (obAt os k).gen := by
  have hb : freeB os (k : Int) = true := by
    unfold freeB
    rw [hok, Int.toNat_natCast]
    have e1 : inB (k : Int) 0 9 = true := by unfold inB; simp; omega
    have e2 : ((k : Int) == 0) = false := by simp; omega
    have e3 : ((obAt os k).kind == 0) = false := by simp [hz]
    rw [e1, e2, e3]; rfl
  have hlen := (arenaOk_parts hok).1
  have e := free_set hb (by omega : k < os.length) (by omega : k < os.length)
  rw [if_pos rfl] at e
  exact ⟨hb, free_ok hok _, by rw [e]; rfl, by rw [e]; rfl⟩
theorem free_was {os : List Ob} {x : Int} (h : freeB os x = true) : ∃ k : Nat, x = (k : Int) ∧ (1 ≤ k ∧ k < 10) ∧ arenaOk os = true ∧ os.length = 10 ∧ (obAt os k).kind ≠ 0 := by
  unfold freeB at h
  simp only [Bool.and_eq_true, Bool.not_eq_true', beq_eq_false_iff_ne] at h
  obtain ⟨h1, h2, h3, h4⟩ := h
  have h5 := inB_true h2
  obtain ⟨k, rfl⟩ : ∃ k : Nat, x = (k : Int) := ⟨x.toNat, by omega⟩
  rw [Int.toNat_natCast] at h4
  exact ⟨k, rfl, ⟨by omega, by omega⟩, h1, (arenaOk_parts h1).1, h4⟩
theorem hasI_un {i : Int} (hi : 0 ≤ i) (ls : List Int) : hasI (ls.map (unN i)) i = false := by
  unfold hasI
  rw [List.any_eq_false]
  intro y hy
  obtain ⟨z, _, rfl⟩ := List.mem_map.1 hy
  unfold unN
  split
  · simp; omega
  · rename_i hne
    simpa using hne
theorem free_leads {os : List Ob} {k : Nat} (h : freeB os (k : Int) = true) (hk : k < os.length) {j : Nat} (hj : j < os.length) : (obAt (freeOf os k) j).into ≠ (k : Int) ∧ hasI (obAt (freeOf os k) j).ls (k : Int) = false := by
  rw [free_set h hk hj]
  refine ⟨?_, hasI_un (by omega) _⟩
  generalize (if j = k then newO (obAt os k).gen else obAt os j) = y
  show unN (k : Int) y.into ≠ (k : Int)
  unfold unN
  split
  · omega
  · assumption
theorem handle_slot {k : Nat} {g : Int} (hv : handleB 0 (k : Int) g = true) : isHandle (handleOf 0 (k : Int) g) = true → handleSlot (handleOf 0 (k : Int) g) = (k : Int) := fun hh => by
  unfold handleSlot
  rw [if_pos hh]
  unfold handleOf
  rw [if_pos hv]
  unfold handleB at hv
  simp only [Bool.and_eq_true] at hv
  have h2 := inB_true hv.2.1
  omega
theorem good_freed {os : List Ob} {k : Nat} {g : Int} (hok : arenaOk os = true) (hz : (obAt os k).kind = 0) : goodOf os 0 0 (handleOf 0 (k : Int) g) = -1 := by
  unfold goodOf
  split
  · rename_i h1
    simp only [Bool.and_eq_true] at h1
    by_cases hv : handleB 0 (k : Int) g = true
    · have e := handle_slot hv h1.2.1
      rw [e, Int.toNat_natCast]
      rw [if_neg]
      intro h2
      simp only [Bool.and_eq_true] at h2
      exact reached_live hok h2.2 hz
    · have e : handleOf 0 (k : Int) g = -1 := by unfold handleOf; rw [if_neg hv]
      rw [e] at h1
      exact absurd h1.2.1 (by decide)
  · rfl
theorem sameInts_self (xs : List Int) : sameInts xs xs = true := by
  unfold sameInts
  simp
theorem sameA_self (os : List Ob) : sameA os os = true := by
  unfold sameA
  simp only [decide_true, Bool.true_and, List.all_eq_true]
  intro i _
  unfold sameO sameF
  simp [sameInts, sameMsgs]
end Go.Proofs.Ytokicnopfmokaaa
namespace Go.Proofs.Ytokicnopfmokaaa
open Go.RowKit
set_option linter.unusedVariables false
set_option maxRecDepth 100000

theorem lawHas_any (v : Value) (xs : List Int) (x : Int) (w : World) (hx : IsInts w v xs) (hn : xs.length ≤ 9223372036854775807) :
    Calls Try.prog 11 #[v, .int .i64 x] w fun e w' => e = .returned (.bool (hasI xs x)) ∧ w = w' := by
  obtain ⟨a, cap, rfl, hcap, hx⟩ := hx
  have HX : Hid (∀ i, i < xs.length → ∃ p, a = some p ∧ w.cell? (p.add i) = some (.int .i64 (xs.getD i 0))) := hx
  clear hx
  go_enter Try.func11, Try.ntmps11
  go_wp2
  go_loop [5] (fun i => ∃ k : Nat, k ≤ xs.length ∧ i = .int .i64 k ∧ Hid (∀ e, e ∈ xs.take k → (e == x) = false)) (fun i => xs.length - (intOf i).toNat)
  case atStart => exact ⟨0, Nat.zero_le _, rfl, fun e he => absurd he (by simp)⟩
  case round =>
    obtain ⟨k, hk, rfl, hall⟩ := hrel
    by_cases hlt : k < xs.length
    · obtain ⟨p, rfl, hc⟩ := HX.out k hlt
      by_cases he : xs.getD k 0 = x
      · have HE : Hid (hasI xs x = true) := hasI_yes hlt he
        rw [he] at hc
        clear hall he
        go_wp2
        go_ret
        exact ⟨by rw [HE.out]; rfl, rfl⟩
      · have HA : Hid (∀ e, e ∈ xs.take (k + 1) → (e == x) = false) := has_more hlt hall.out he
        obtain ⟨y, hy⟩ : ∃ y, y = xs.getD k 0 := ⟨_, rfl⟩
        rw [← hy] at hc he
        have hne : (y == x) = false := beq_eq_false_iff_ne.2 he
        clear hall he hy
        go_wp2
        exact ⟨⟨k + 1, by omega, by go_num, HA⟩, by simp [intOf]; omega⟩
    · obtain rfl : k = xs.length := by omega
      have HE : Hid (hasI xs x = false) := hasI_no hall.out
      clear hall
      go_wp2
      go_ret
      exact ⟨by rw [HE.out]; rfl, rfl⟩
theorem guard_und {o : Oper} {ops : Array Oper} {us : Nat → Value} {j : Nat} {want : Bool} {d : Tmp} {A B : Prop} (hg : o.guard = some (j, want)) (hd : dstAt ops.toList j = some d) (hu : us j = undef) (h : B) : if Region.wanted o (yieldUs ops us) = true then A else B := by
  have hw : Region.wanted o (yieldUs ops us) = false := by
    unfold dstAt at hd
    have hd' : (ops[j]?).bind (·.dst) = some d := by simpa using hd
    simp [Region.wanted, hg, yieldUs, hd', hu, undef]
  rw [if_neg (by rw [hw]; exact Bool.false_ne_true)]; exact h
theorem arena_at {w : World} {g c n : Nat} {os : List Ob} (h : IsArena w (.slice (some ⟨g, 0, none⟩) n c) os) {k : Nat} (hk : k < os.length) : ∃ l d m, ObCells w ⟨g, k * 13, none⟩ (obAt os k) l d m ∧ IsInts w l (obAt os k).ls := by
  obtain ⟨p, q, l, d, m, h1, h2, h3, h4⟩ := h.at hk
  cases h1
  rw [add_head] at h2
  subst h2
  exact ⟨l, d, m, h3, h4.ls⟩
theorem hl13 {os : List Ob} (h : ∀ i, obN (obAt os i) ≤ 13) : Small8 os := fun i => Nat.le_trans (h i) (by decide)
theorem arN_le {B : Nat} : ∀ {os : List Ob}, (∀ i, obN (obAt os i) ≤ B) → arN os ≤ os.length * B
  | [], _ => by simp [arN]
  | o :: os, h => by
    have h0 := h 0
    have ih := arN_le (os := os) (fun i => h (i + 1))
    rw [arN_cons, List.length_cons, Nat.succ_mul]
    have e : obAt (o :: os) 0 = o := rfl
    rw [e] at h0
    omega
set_option maxRecDepth 100000 in
set_option maxHeartbeats 16000000 in
theorem walkArena (w : World) (a : Option Addr) (len cap : Nat) (cb : Nat → Nat) (hc : Code0 w a len cb) :
    Calls Try.prog 3 #[.slice a len cap] w fun e w' => e = .returned (.bool true) ∧ Below w.heap.size w w' := by
  have C := big_no w a len cap (by have := hc.small; omega)
  have CP := drawPut_any w a len cap cb hc
  have HCF : Hid (∀ w', Below w.heap.size w w' → Calls Try.prog 10 #[.slice a len cap] w' fun e w'' => FreeDrawn w' e w'') := fun w' hb => drawFree_any w' a len cap cb (hc.on hb)
  clear hc
  go_enter Try.func3, Try.ntmps3
  go_wp2_with fail
  refine C.mono ?_
  rintro e w0 ⟨rfl, rfl⟩
  clear C
  go_wp2_with fail
  refine CP.mono ?_
  rintro e w1 ⟨ga, n, c, os, o, l, d, m, rfl, hl, hn, hx, hs, hf, hls, hno, hfo, hb⟩
  obtain ⟨la, ln, lc, hl1⟩ : ∃ a n c, l = .slice a n c := by (obtain ⟨a, cc, hv, _⟩ := hls.ls; exact ⟨a, _, cc, hv⟩)
  obtain ⟨da, dn, dc, hd1⟩ : ∃ a n c, d = .slice a n c := by (obtain ⟨a, cc, hv, _⟩ := hls.ds; exact ⟨a, _, cc, hv⟩)
  obtain ⟨ma, mn, mc, hm1⟩ : ∃ a n c, m = .slice a n c := by (obtain ⟨a, cc, hv, _⟩ := hls.qs; exact ⟨a, _, cc, hv⟩)
  subst hl1
  subst hd1
  subst hm1
  obtain ⟨W2, hW2⟩ : ∃ W2, W2 = w1.alloc (boxO o (.slice la ln lc) (.slice da dn dc) (.slice ma mn mc)) := ⟨_, rfl⟩
  have hal := below_alloc w1 (boxO o (.slice la ln lc) (.slice da dn dc) (.slice ma mn mc))
  have HOB0 : Hid (ObCells W2 ⟨w1.heap.size, 0, none⟩ o (.slice la ln lc) (.slice da dn dc) (.slice ma mn mc)) := by
    show ObCells _ _ _ _ _ _
    rw [hW2]
    constructor <;> simp
  have HX2 : Hid (IsArena W2 (.slice (some ⟨ga, 0, none⟩) n c) os) := by rw [hW2]; exact hx.on hal
  have HB2 : Hid (Below w.heap.size w W2) := by rw [hW2]; exact below_more hb hal
  obtain ⟨po, hpo⟩ : ∃ po, po = putOf os o := ⟨_, rfl⟩
  obtain ⟨pi, hpi⟩ : ∃ pi, pi = putI os o := ⟨_, rfl⟩
  have hsm : Small8 os := hl13 hs
  have hpl : po.length = n := by rw [hpo, putOf_len8]; exact hl
  have CPut : Hid (Calls Try.prog 6 #[.slice (some ⟨ga, 0, none⟩) n c, obV o (.slice la ln lc) (.slice da dn dc) (.slice ma mn mc)] W2 fun e w' => PutAns po pi W2 e w') := by
    have e := implPut_any ⟨ga, 0, none⟩ c os o _ _ _ W2 (by rw [hl]; exact HX2.out) (hls.on (w' := W2) (by rw [hW2]; exact hal)) (by omega) hsm (Nat.le_trans hno (by decide))
    rw [hl, ← hpo, ← hpi] at e
    exact e
  have HSM := hid_of (And.intro hsm (And.intro hf (And.intro hn hl)))
  have HPL := hid_of hpl
  have HNO := hid_of (And.intro hno hfo)
  have HPO := hid_of hpo
  have HPI := hid_of hpi
  clear CP hal hx hb hls hs hf hsm hpl hno hfo hpo hpi hn hl
  dsimp only
  repeat (first | (with_reducible refine halt_region (id := 4) ?_) | go_values | go_skip | go_guarded | go_step | go_upon | go_back)
  unfold Halt0
  rw [← hW2]
  obtain ⟨B, hB⟩ : ∃ B, B = w1.heap.size := ⟨_, rfl⟩
  rw [← hB] at HOB0 ⊢
  clear hB hW2
  obtain ⟨x0, x1, x2, x3, x4, x5, x6, x7, x8, x9, x10, x11, x12⟩ := HOB0.out
  go_wp2_with fail
  refine CPut.out.mono ?_
  rintro e w3 ⟨g2, c2, fs2, rs2, rfl, he2, ho2, hb2⟩
  rw [HPL.out]
  have HB3 := hid_of (below_more HB2.out hb2)
  have HX3 := hid_of (HX2.out.on hb2)
  have HOB3 := hid_of (HOB0.out.on hb2)
  have HA3 : Hid (IsArena w3 (.slice (some ⟨g2, 0, none⟩) n c2) po) := by
    have e := ho2.arena
    have e2 : fs2.length = n := by rw [← arOf_length, he2]; exact HPL.out
    rw [he2, e2] at e
    exact e
  clear CPut HB2 HX2 HOB0 he2 ho2 hb2 x0 x1 x2 x3 x4 x5 x6 x7 x8 x9 x10 x11 x12
  cases hp : putB os o with
  | false =>
    obtain ⟨e1, e2⟩ := PutAns.no hp
    obtain rfl : pi = -1 := HPI.out.trans e2
    obtain rfl : po = os := HPO.out.trans e1
    have CS := specSameA_any _ _ po po w3 HA3.out HX3.out (by have := HPL.out; have := HSM.out.2.2.1; omega) HSM.out.1
    rw [sameA_self] at CS
    clear e1 e2 hp HPO HPI
    go_wp2_with fail
    refine CS.mono ?_
    rintro e w4 ⟨rfl, hb⟩
    have HB4 := hid_of (below_more HB3.out hb)
    clear hb CS
    go_wp2
    go_ret
    exact ⟨rfl, HB4.out⟩
  | true =>
    obtain ⟨k, hk, hk19, hlen, hok, hki, hgen, hkd, hkn, hg0⟩ := put_yes hp
    obtain rfl : pi = (k : Int) := HPI.out.trans hk
    rw [← HPO.out] at hok hgen hkd
    obtain rfl : n = 10 := HSM.out.2.2.2.symm.trans hlen
    have hkl : k < os.length := by omega
    have hkp : k < po.length := by rw [HPL.out]; exact hk19.2
    obtain ⟨l1, d1, m1, hc1, _⟩ := arena_at HX3.out hkl
    obtain ⟨l2, d2, m2, hc2, _⟩ := arena_at HA3.out hkp
    obtain ⟨G0, hG0⟩ : ∃ G0, G0 = (obAt os k).gen := ⟨_, rfl⟩
    have HCEL := hid_of hc1
    have HCEX := hid_of hc2
    have HKI : Hid ((obAt os k).kind = 0 ∧ (obAt po k).gen = G0 + 1 ∧ (obAt po k).kind = o.kind ∧ (obAt os k).gen = G0) := ⟨hki, by rw [hG0]; exact hgen, hkd, hG0.symm⟩
    have HGW : Hid (IntKind.i64.wrap (G0 + 1) = G0 + 1) := by show _ = _; rw [hG0]; exact wraps_i64 _ (by omega) (by omega)
    have HKN := hid_of hkn
    have HQL : Hid ((⟨ga, 0, none⟩ : Addr).add (k * 13) = ⟨ga, k * 13, none⟩) := add_head ga (k * 13)
    have HQX : Hid ((⟨g2, 0, none⟩ : Addr).add (k * 13) = ⟨g2, k * 13, none⟩) := add_head g2 (k * 13)
    have HKZ : Hid ((k : Int) < 10) := by show _ < _; omega
    have HK19 := hid_of hk19
    have HCL : Hid (10 ≤ c) := by (obtain ⟨_, _, hv, h, _⟩ := HX3.out; have e := (Value.slice.inj hv).2.2; have := (Value.slice.inj hv).2.1; show _ ≤ _; omega)
    have HCX : Hid (10 ≤ c2) := by (obtain ⟨_, _, hv, h, _⟩ := HA3.out; have e := (Value.slice.inj hv).2.2; have := (Value.slice.inj hv).2.1; show _ ≤ _; omega)
    have HPS : Hid (Small8 po ∧ AllFit po ∧ po.length = 10 ∧ (10 : Int) + arN po ≤ 1048576) := by
      have h13 : ∀ i, obN (obAt po i) ≤ 12 := ok_few hok.2
      have ha := arN_le h13
      rw [HPL.out] at ha
      exact ⟨ok_small hok.2, by rw [HPO.out]; exact put_fit HSM.out.2.1 HNO.out.2, HPL.out, by omega⟩
    have HOK2 := hid_of hok.2
    have HAO : Hid (∀ w', Below w3.heap.size w3 w' → Calls Try.prog 8 #[.slice (some ⟨g2, 0, none⟩) 10 c2] w' fun e w'' => e = .returned (.bool true) ∧ Below w'.heap.size w' w'') := fun w' hb => by
      have e := specArenaOk_any _ po w' (HA3.out.on hb) (by rw [HPS.out.2.2.1]; decide) HPS.out.1 HPS.out.2.1
      rw [HOK2.out] at e
      exact e
    have HFR : Hid (∀ w', Below w3.heap.size w3 w' → Calls Try.prog 9 #[.slice (some ⟨g2, 0, none⟩) 10 c2, .int .i64 (k : Int)] w' fun e w'' => FreeAns (freeOf po k) (freeB po k) w' e w'') := fun w' hb => by
      have e := implFree_any ⟨g2, 0, none⟩ c2 po k w' (by rw [HPS.out.2.2.1]; exact HA3.out.on hb) (by rw [HPS.out.2.2.1]; decide) HPS.out.1 (by rw [HPS.out.2.2.1]; exact HPS.out.2.2.2)
      rw [HPS.out.2.2.1] at e
      exact e
    have hFY := free_yes hok.2 hk19.1 hk19.2 (by rw [hkd]; exact hkn)
    rw [hFY.1] at HFR
    have HFY := hid_of hFY.2
    obtain ⟨W9, hW9⟩ : ∃ W9, W9 = w3 := ⟨_, rfl⟩
    subst hW9
    obtain ⟨l9, hl9⟩ : ∃ l9 : List Value, l9 = [.slice (some ⟨g2, 0, none⟩) 10 c2, .bool true, .bool false, .bool false, .slice (some ⟨ga, 0, none⟩) 10 c, .int .i64 (k : Int), .pointer (some ⟨ga, k * 13, none⟩), .pointer (some ⟨ga, k * 13 + 1, none⟩), .int .i64 0, .bool false, .bool false, .bool false, .slice (some ⟨g2, 0, none⟩) 10 c2, .int .i64 (k : Int), .pointer (some ⟨g2, k * 13, none⟩), .pointer (some ⟨g2, k * 13, none⟩), .int .i64 (G0 + 1), .slice (some ⟨ga, 0, none⟩) 10 c, .int .i64 (k : Int), .pointer (some ⟨ga, k * 13, none⟩), .pointer (some ⟨ga, k * 13, none⟩), .int .i64 G0, .int .i64 (G0 + 1), .bool false, .bool false, .bool false, .slice (some ⟨g2, 0, none⟩) 10 c2, .int .i64 (k : Int), .pointer (some ⟨g2, k * 13, none⟩), .pointer (some ⟨g2, k * 13 + 1, none⟩), .int .i64 o.kind, .pointer (some ⟨B, 1, none⟩), .int .i64 o.kind, .bool false, .bool false] := ⟨_, rfl⟩
    have HL9 := hid_of hl9
    have HOB := hid_of HOB3.out
    have n1 : decide ((k : Int) < 0) = false := by simp
    have n2 : decide ((k : Int) ≥ 10) = false := by simp; omega
    have n3 : decide ((10 : Int) ≤ (k : Int)) = false := by simp; omega
    clear hl9 hc1 hc2 hG0 hk19 hlen hok hki hgen hkd hkn hg0 hkl hkp hp hk hFY HOB3 HPO HPI HNO HPL
    go_wp2_with fail
    refine wp_region_whole (by kernel_rfl) (by kernel_rfl) (by kernel_rfl) (by kernel_rfl) (Flat (fun wz => Below W9.heap.size W9 wz) (gVals l9)) (flat_start (below_draw _)) ?_ ?_
    · refine ⟨?_, ?_, ?_, ?_, ?_, ?_, ?_, ?_, ?_, ?_, ?_, ?_, ?_, ?_, ?_, ?_, ?_, ?_, ?_, ?_, ?_, ?_, ?_, ?_, ?_, ?_, ?_, ?_, ?_, ?_, ?_, ?_, ?_, ?_, ?_, trivial⟩
      · intro b0 us wz L hslot hoth hLi hR hcl hdo K hK
        rcases HL9.out with rfl
        · have s5 : b0.tmps.getD 5 undef = .slice (some ⟨g2, 0, none⟩) 10 c2 := hoth 5 (by rfl)
          clear hslot hoth hdo hcl hLi
          refine guard_none (by rfl) ?_
          go_simp
          exact hK _ _ (flat_mark (hR.1) (fun _ _ h => h) hR.2 rfl)
      · intro b0 us wz L hslot hoth hLi hR hcl hdo K hK
        rcases HL9.out with rfl
        · have s43 : b0.tmps.getD 43 undef = .slice (some ⟨g2, 0, none⟩) 10 c2 := (hslot 0 43 (by rfl)).trans (hR.2 0 (done_at hdo 0 (by rfl)))
          clear hslot hoth hdo hcl hLi
          refine guard_none (by rfl) ?_
          go_simp
          refine (HAO.out _ hR.1).mono ?_
          rintro e w' ⟨rfl, hb⟩
          exact hK _ _ (flat_mark (below_more hR.1 hb) (fun _ _ h => h) hR.2 rfl)
      · intro b0 us wz L hslot hoth hLi hR hcl hdo K hK
        rcases HL9.out with rfl
        · have s44 : b0.tmps.getD 44 undef = .bool true := (hslot 1 44 (by rfl)).trans (hR.2 1 (done_at hdo 1 (by rfl)))
          clear hslot hoth hdo hcl hLi
          refine guard_none (by rfl) ?_
          go_simp
          exact hK _ _ (flat_mark (hR.1) (fun _ _ h => h) hR.2 rfl)
      · intro b0 us wz L hslot hoth hLi hR hcl hdo K hK
        rcases HL9.out with rfl
        · have s45 : b0.tmps.getD 45 undef = .bool false := (hslot 2 45 (by rfl)).trans (hR.2 2 (done_at hdo 2 (by rfl)))
          clear hslot hoth hdo hcl hLi
          refine guard_none (by rfl) ?_
          go_simp
          exact hK _ _ (flat_mark (hR.1) (fun _ _ h => h) hR.2 rfl)
      · intro b0 us wz L hslot hoth hLi hR hcl hdo K hK
        rcases HL9.out with rfl
        · have gg : us 3 = .bool false := hR.2 3 (done_at hdo 3 (by rfl))
          have s3 : b0.tmps.getD 3 undef = .slice (some ⟨ga, 0, none⟩) 10 c := hoth 3 (by rfl)
          clear hslot hoth hdo hcl hLi
          refine guard_on (j := 3) (want := false) (d := 46) (by rfl) (by rfl) gg ?_
          go_simp
          exact hK _ _ (flat_mark (hR.1) (fun _ _ h => h) hR.2 rfl)
      · intro b0 us wz L hslot hoth hLi hR hcl hdo K hK
        rcases HL9.out with rfl
        · have gg : us 3 = .bool false := hR.2 3 (done_at hdo 3 (by rfl))
          have s6 : b0.tmps.getD 6 undef = .int .i64 (k : Int) := hoth 6 (by rfl)
          clear hslot hoth hdo hcl hLi
          refine guard_on (j := 3) (want := false) (d := 46) (by rfl) (by rfl) gg ?_
          go_simp
          exact hK _ _ (flat_mark (hR.1) (fun _ _ h => h) hR.2 rfl)
      · intro b0 us wz L hslot hoth hLi hR hcl hdo K hK
        rcases HL9.out with rfl
        · have gg : us 3 = .bool false := hR.2 3 (done_at hdo 3 (by rfl))
          have s47 : b0.tmps.getD 47 undef = .slice (some ⟨ga, 0, none⟩) 10 c := (hslot 4 47 (by rfl)).trans (hR.2 4 (done_at hdo 4 (by rfl)))
          have s48 : b0.tmps.getD 48 undef = .int .i64 (k : Int) := (hslot 5 48 (by rfl)).trans (hR.2 5 (done_at hdo 5 (by rfl)))
          have hq := HQL.out
          have hkz := HKZ.out
          have hcc := HCL.out
          clear hslot hoth hdo hcl hLi
          refine guard_on (j := 3) (want := false) (d := 46) (by rfl) (by rfl) gg ?_
          go_simp
          exact hK _ _ (flat_mark (hR.1) (fun _ _ h => h) hR.2 rfl)
      · intro b0 us wz L hslot hoth hLi hR hcl hdo K hK
        rcases HL9.out with rfl
        · have gg : us 3 = .bool false := hR.2 3 (done_at hdo 3 (by rfl))
          have s49 : b0.tmps.getD 49 undef = .pointer (some ⟨ga, k * 13, none⟩) := (hslot 6 49 (by rfl)).trans (hR.2 6 (done_at hdo 6 (by rfl)))
          clear hslot hoth hdo hcl hLi
          refine guard_on (j := 3) (want := false) (d := 46) (by rfl) (by rfl) gg ?_
          go_simp
          exact hK _ _ (flat_mark (hR.1) (fun _ _ h => h) hR.2 rfl)
      · intro b0 us wz L hslot hoth hLi hR hcl hdo K hK
        rcases HL9.out with rfl
        · have gg : us 3 = .bool false := hR.2 3 (done_at hdo 3 (by rfl))
          have s50 : b0.tmps.getD 50 undef = .pointer (some ⟨ga, k * 13 + 1, none⟩) := (hslot 7 50 (by rfl)).trans (hR.2 7 (done_at hdo 7 (by rfl)))
          have xx := (HCEL.out.on hR.1).c1
          rw [HKI.out.1] at xx
          clear hslot hoth hdo hcl hLi
          refine guard_on (j := 3) (want := false) (d := 46) (by rfl) (by rfl) gg ?_
          go_simp
          exact hK _ _ (flat_mark (hR.1) (fun _ _ h => h) hR.2 rfl)
      · intro b0 us wz L hslot hoth hLi hR hcl hdo K hK
        rcases HL9.out with rfl
        · have gg : us 3 = .bool false := hR.2 3 (done_at hdo 3 (by rfl))
          have s51 : b0.tmps.getD 51 undef = .int .i64 0 := (hslot 8 51 (by rfl)).trans (hR.2 8 (done_at hdo 8 (by rfl)))
          clear hslot hoth hdo hcl hLi
          refine guard_on (j := 3) (want := false) (d := 46) (by rfl) (by rfl) gg ?_
          go_simp
          exact hK _ _ (flat_mark (hR.1) (fun _ _ h => h) hR.2 rfl)
      · intro b0 us wz L hslot hoth hLi hR hcl hdo K hK
        rcases HL9.out with rfl
        · have s46 : b0.tmps.getD 46 undef = .bool false := (hslot 3 46 (by rfl)).trans (hR.2 3 (done_at hdo 3 (by rfl)))
          have s52 : b0.tmps.getD 52 undef = .bool false := (hslot 9 52 (by rfl)).trans (hR.2 9 (done_at hdo 9 (by rfl)))
          clear hslot hoth hdo hcl hLi
          refine guard_none (by rfl) ?_
          go_simp
          exact hK _ _ (flat_mark (hR.1) (fun _ _ h => h) hR.2 rfl)
      · intro b0 us wz L hslot hoth hLi hR hcl hdo K hK
        rcases HL9.out with rfl
        · have s53 : b0.tmps.getD 53 undef = .bool false := (hslot 10 53 (by rfl)).trans (hR.2 10 (done_at hdo 10 (by rfl)))
          clear hslot hoth hdo hcl hLi
          refine guard_none (by rfl) ?_
          go_simp
          exact hK _ _ (flat_mark (hR.1) (fun _ _ h => h) hR.2 rfl)
      · intro b0 us wz L hslot hoth hLi hR hcl hdo K hK
        rcases HL9.out with rfl
        · have gg : us 11 = .bool false := hR.2 11 (done_at hdo 11 (by rfl))
          have s5 : b0.tmps.getD 5 undef = .slice (some ⟨g2, 0, none⟩) 10 c2 := hoth 5 (by rfl)
          clear hslot hoth hdo hcl hLi
          refine guard_on (j := 11) (want := false) (d := 54) (by rfl) (by rfl) gg ?_
          go_simp
          exact hK _ _ (flat_mark (hR.1) (fun _ _ h => h) hR.2 rfl)
      · intro b0 us wz L hslot hoth hLi hR hcl hdo K hK
        rcases HL9.out with rfl
        · have gg : us 11 = .bool false := hR.2 11 (done_at hdo 11 (by rfl))
          have s6 : b0.tmps.getD 6 undef = .int .i64 (k : Int) := hoth 6 (by rfl)
          clear hslot hoth hdo hcl hLi
          refine guard_on (j := 11) (want := false) (d := 54) (by rfl) (by rfl) gg ?_
          go_simp
          exact hK _ _ (flat_mark (hR.1) (fun _ _ h => h) hR.2 rfl)
      · intro b0 us wz L hslot hoth hLi hR hcl hdo K hK
        rcases HL9.out with rfl
        · have gg : us 11 = .bool false := hR.2 11 (done_at hdo 11 (by rfl))
          have s55 : b0.tmps.getD 55 undef = .slice (some ⟨g2, 0, none⟩) 10 c2 := (hslot 12 55 (by rfl)).trans (hR.2 12 (done_at hdo 12 (by rfl)))
          have s56 : b0.tmps.getD 56 undef = .int .i64 (k : Int) := (hslot 13 56 (by rfl)).trans (hR.2 13 (done_at hdo 13 (by rfl)))
          have hq := HQX.out
          have hkz := HKZ.out
          have hcc := HCX.out
          clear hslot hoth hdo hcl hLi
          refine guard_on (j := 11) (want := false) (d := 54) (by rfl) (by rfl) gg ?_
          go_simp
          exact hK _ _ (flat_mark (hR.1) (fun _ _ h => h) hR.2 rfl)
      · intro b0 us wz L hslot hoth hLi hR hcl hdo K hK
        rcases HL9.out with rfl
        · have gg : us 11 = .bool false := hR.2 11 (done_at hdo 11 (by rfl))
          have s57 : b0.tmps.getD 57 undef = .pointer (some ⟨g2, k * 13, none⟩) := (hslot 14 57 (by rfl)).trans (hR.2 14 (done_at hdo 14 (by rfl)))
          clear hslot hoth hdo hcl hLi
          refine guard_on (j := 11) (want := false) (d := 54) (by rfl) (by rfl) gg ?_
          go_simp
          exact hK _ _ (flat_mark (hR.1) (fun _ _ h => h) hR.2 rfl)
      · intro b0 us wz L hslot hoth hLi hR hcl hdo K hK
        rcases HL9.out with rfl
        · have gg : us 11 = .bool false := hR.2 11 (done_at hdo 11 (by rfl))
          have s58 : b0.tmps.getD 58 undef = .pointer (some ⟨g2, k * 13, none⟩) := (hslot 15 58 (by rfl)).trans (hR.2 15 (done_at hdo 15 (by rfl)))
          have xx := (HCEX.out.on hR.1).c0
          rw [HKI.out.2.1] at xx
          clear hslot hoth hdo hcl hLi
          refine guard_on (j := 11) (want := false) (d := 54) (by rfl) (by rfl) gg ?_
          go_simp
          exact hK _ _ (flat_mark (hR.1) (fun _ _ h => h) hR.2 rfl)
      · intro b0 us wz L hslot hoth hLi hR hcl hdo K hK
        rcases HL9.out with rfl
        · have gg : us 11 = .bool false := hR.2 11 (done_at hdo 11 (by rfl))
          have s3 : b0.tmps.getD 3 undef = .slice (some ⟨ga, 0, none⟩) 10 c := hoth 3 (by rfl)
          clear hslot hoth hdo hcl hLi
          refine guard_on (j := 11) (want := false) (d := 54) (by rfl) (by rfl) gg ?_
          go_simp
          exact hK _ _ (flat_mark (hR.1) (fun _ _ h => h) hR.2 rfl)
      · intro b0 us wz L hslot hoth hLi hR hcl hdo K hK
        rcases HL9.out with rfl
        · have gg : us 11 = .bool false := hR.2 11 (done_at hdo 11 (by rfl))
          have s6 : b0.tmps.getD 6 undef = .int .i64 (k : Int) := hoth 6 (by rfl)
          clear hslot hoth hdo hcl hLi
          refine guard_on (j := 11) (want := false) (d := 54) (by rfl) (by rfl) gg ?_
          go_simp
          exact hK _ _ (flat_mark (hR.1) (fun _ _ h => h) hR.2 rfl)
      · intro b0 us wz L hslot hoth hLi hR hcl hdo K hK
        rcases HL9.out with rfl
        · have gg : us 11 = .bool false := hR.2 11 (done_at hdo 11 (by rfl))
          have s60 : b0.tmps.getD 60 undef = .slice (some ⟨ga, 0, none⟩) 10 c := (hslot 17 60 (by rfl)).trans (hR.2 17 (done_at hdo 17 (by rfl)))
          have s61 : b0.tmps.getD 61 undef = .int .i64 (k : Int) := (hslot 18 61 (by rfl)).trans (hR.2 18 (done_at hdo 18 (by rfl)))
          have hq := HQL.out
          have hkz := HKZ.out
          have hcc := HCL.out
          clear hslot hoth hdo hcl hLi
          refine guard_on (j := 11) (want := false) (d := 54) (by rfl) (by rfl) gg ?_
          go_simp
          exact hK _ _ (flat_mark (hR.1) (fun _ _ h => h) hR.2 rfl)
      · intro b0 us wz L hslot hoth hLi hR hcl hdo K hK
        rcases HL9.out with rfl
        · have gg : us 11 = .bool false := hR.2 11 (done_at hdo 11 (by rfl))
          have s62 : b0.tmps.getD 62 undef = .pointer (some ⟨ga, k * 13, none⟩) := (hslot 19 62 (by rfl)).trans (hR.2 19 (done_at hdo 19 (by rfl)))
          clear hslot hoth hdo hcl hLi
          refine guard_on (j := 11) (want := false) (d := 54) (by rfl) (by rfl) gg ?_
          go_simp
          exact hK _ _ (flat_mark (hR.1) (fun _ _ h => h) hR.2 rfl)
      · intro b0 us wz L hslot hoth hLi hR hcl hdo K hK
        rcases HL9.out with rfl
        · have gg : us 11 = .bool false := hR.2 11 (done_at hdo 11 (by rfl))
          have s63 : b0.tmps.getD 63 undef = .pointer (some ⟨ga, k * 13, none⟩) := (hslot 20 63 (by rfl)).trans (hR.2 20 (done_at hdo 20 (by rfl)))
          have xx := (HCEL.out.on hR.1).c0
          rw [HKI.out.2.2.2] at xx
          clear hslot hoth hdo hcl hLi
          refine guard_on (j := 11) (want := false) (d := 54) (by rfl) (by rfl) gg ?_
          go_simp
          exact hK _ _ (flat_mark (hR.1) (fun _ _ h => h) hR.2 rfl)
      · intro b0 us wz L hslot hoth hLi hR hcl hdo K hK
        rcases HL9.out with rfl
        · have gg : us 11 = .bool false := hR.2 11 (done_at hdo 11 (by rfl))
          have s64 : b0.tmps.getD 64 undef = .int .i64 G0 := (hslot 21 64 (by rfl)).trans (hR.2 21 (done_at hdo 21 (by rfl)))
          clear hslot hoth hdo hcl hLi
          refine guard_on (j := 11) (want := false) (d := 54) (by rfl) (by rfl) gg ?_
          go_simp
          exact hK _ _ (flat_mark (hR.1) (fun _ _ h => h) hR.2 (show Value.int .i64 (IntKind.i64.wrap (G0 + 1)) = Value.int .i64 (G0 + 1) from congrArg (Value.int .i64) HGW.out))
      · intro b0 us wz L hslot hoth hLi hR hcl hdo K hK
        rcases HL9.out with rfl
        · have gg : us 11 = .bool false := hR.2 11 (done_at hdo 11 (by rfl))
          have s59 : b0.tmps.getD 59 undef = .int .i64 (G0 + 1) := (hslot 16 59 (by rfl)).trans (hR.2 16 (done_at hdo 16 (by rfl)))
          have s65 : b0.tmps.getD 65 undef = .int .i64 (G0 + 1) := (hslot 22 65 (by rfl)).trans (hR.2 22 (done_at hdo 22 (by rfl)))
          clear hslot hoth hdo hcl hLi
          refine guard_on (j := 11) (want := false) (d := 54) (by rfl) (by rfl) gg ?_
          go_simp
          exact hK _ _ (flat_mark (hR.1) (fun _ _ h => h) hR.2 rfl)
      · intro b0 us wz L hslot hoth hLi hR hcl hdo K hK
        rcases HL9.out with rfl
        · have s54 : b0.tmps.getD 54 undef = .bool false := (hslot 11 54 (by rfl)).trans (hR.2 11 (done_at hdo 11 (by rfl)))
          have s66 : b0.tmps.getD 66 undef = .bool false := (hslot 23 66 (by rfl)).trans (hR.2 23 (done_at hdo 23 (by rfl)))
          clear hslot hoth hdo hcl hLi
          refine guard_none (by rfl) ?_
          go_simp
          exact hK _ _ (flat_mark (hR.1) (fun _ _ h => h) hR.2 rfl)
      · intro b0 us wz L hslot hoth hLi hR hcl hdo K hK
        rcases HL9.out with rfl
        · have s67 : b0.tmps.getD 67 undef = .bool false := (hslot 24 67 (by rfl)).trans (hR.2 24 (done_at hdo 24 (by rfl)))
          clear hslot hoth hdo hcl hLi
          refine guard_none (by rfl) ?_
          go_simp
          exact hK _ _ (flat_mark (hR.1) (fun _ _ h => h) hR.2 rfl)
      · intro b0 us wz L hslot hoth hLi hR hcl hdo K hK
        rcases HL9.out with rfl
        · have gg : us 25 = .bool false := hR.2 25 (done_at hdo 25 (by rfl))
          have s5 : b0.tmps.getD 5 undef = .slice (some ⟨g2, 0, none⟩) 10 c2 := hoth 5 (by rfl)
          clear hslot hoth hdo hcl hLi
          refine guard_on (j := 25) (want := false) (d := 68) (by rfl) (by rfl) gg ?_
          go_simp
          exact hK _ _ (flat_mark (hR.1) (fun _ _ h => h) hR.2 rfl)
      · intro b0 us wz L hslot hoth hLi hR hcl hdo K hK
        rcases HL9.out with rfl
        · have gg : us 25 = .bool false := hR.2 25 (done_at hdo 25 (by rfl))
          have s6 : b0.tmps.getD 6 undef = .int .i64 (k : Int) := hoth 6 (by rfl)
          clear hslot hoth hdo hcl hLi
          refine guard_on (j := 25) (want := false) (d := 68) (by rfl) (by rfl) gg ?_
          go_simp
          exact hK _ _ (flat_mark (hR.1) (fun _ _ h => h) hR.2 rfl)
      · intro b0 us wz L hslot hoth hLi hR hcl hdo K hK
        rcases HL9.out with rfl
        · have gg : us 25 = .bool false := hR.2 25 (done_at hdo 25 (by rfl))
          have s69 : b0.tmps.getD 69 undef = .slice (some ⟨g2, 0, none⟩) 10 c2 := (hslot 26 69 (by rfl)).trans (hR.2 26 (done_at hdo 26 (by rfl)))
          have s70 : b0.tmps.getD 70 undef = .int .i64 (k : Int) := (hslot 27 70 (by rfl)).trans (hR.2 27 (done_at hdo 27 (by rfl)))
          have hq := HQX.out
          have hkz := HKZ.out
          have hcc := HCX.out
          clear hslot hoth hdo hcl hLi
          refine guard_on (j := 25) (want := false) (d := 68) (by rfl) (by rfl) gg ?_
          go_simp
          exact hK _ _ (flat_mark (hR.1) (fun _ _ h => h) hR.2 rfl)
      · intro b0 us wz L hslot hoth hLi hR hcl hdo K hK
        rcases HL9.out with rfl
        · have gg : us 25 = .bool false := hR.2 25 (done_at hdo 25 (by rfl))
          have s71 : b0.tmps.getD 71 undef = .pointer (some ⟨g2, k * 13, none⟩) := (hslot 28 71 (by rfl)).trans (hR.2 28 (done_at hdo 28 (by rfl)))
          clear hslot hoth hdo hcl hLi
          refine guard_on (j := 25) (want := false) (d := 68) (by rfl) (by rfl) gg ?_
          go_simp
          exact hK _ _ (flat_mark (hR.1) (fun _ _ h => h) hR.2 rfl)
      · intro b0 us wz L hslot hoth hLi hR hcl hdo K hK
        rcases HL9.out with rfl
        · have gg : us 25 = .bool false := hR.2 25 (done_at hdo 25 (by rfl))
          have s72 : b0.tmps.getD 72 undef = .pointer (some ⟨g2, k * 13 + 1, none⟩) := (hslot 29 72 (by rfl)).trans (hR.2 29 (done_at hdo 29 (by rfl)))
          have xx := (HCEX.out.on hR.1).c1
          rw [HKI.out.2.2.1] at xx
          clear hslot hoth hdo hcl hLi
          refine guard_on (j := 25) (want := false) (d := 68) (by rfl) (by rfl) gg ?_
          go_simp
          exact hK _ _ (flat_mark (hR.1) (fun _ _ h => h) hR.2 rfl)
      · intro b0 us wz L hslot hoth hLi hR hcl hdo K hK
        rcases HL9.out with rfl
        · have gg : us 25 = .bool false := hR.2 25 (done_at hdo 25 (by rfl))
          have s4 : b0.tmps.getD 4 undef = .pointer (some ⟨B, 0, none⟩) := hoth 4 (by rfl)
          clear hslot hoth hdo hcl hLi
          refine guard_on (j := 25) (want := false) (d := 68) (by rfl) (by rfl) gg ?_
          go_simp
          exact hK _ _ (flat_mark (hR.1) (fun _ _ h => h) hR.2 rfl)
      · intro b0 us wz L hslot hoth hLi hR hcl hdo K hK
        rcases HL9.out with rfl
        · have gg : us 25 = .bool false := hR.2 25 (done_at hdo 25 (by rfl))
          have s74 : b0.tmps.getD 74 undef = .pointer (some ⟨B, 1, none⟩) := (hslot 31 74 (by rfl)).trans (hR.2 31 (done_at hdo 31 (by rfl)))
          have xx := (HOB.out.on hR.1).c1
          clear hslot hoth hdo hcl hLi
          refine guard_on (j := 25) (want := false) (d := 68) (by rfl) (by rfl) gg ?_
          go_simp
          exact hK _ _ (flat_mark (hR.1) (fun _ _ h => h) hR.2 rfl)
      · intro b0 us wz L hslot hoth hLi hR hcl hdo K hK
        rcases HL9.out with rfl
        · have gg : us 25 = .bool false := hR.2 25 (done_at hdo 25 (by rfl))
          have s73 : b0.tmps.getD 73 undef = .int .i64 o.kind := (hslot 30 73 (by rfl)).trans (hR.2 30 (done_at hdo 30 (by rfl)))
          have s75 : b0.tmps.getD 75 undef = .int .i64 o.kind := (hslot 32 75 (by rfl)).trans (hR.2 32 (done_at hdo 32 (by rfl)))
          clear hslot hoth hdo hcl hLi
          refine guard_on (j := 25) (want := false) (d := 68) (by rfl) (by rfl) gg ?_
          go_simp
          exact hK _ _ (flat_mark (hR.1) (fun _ _ h => h) hR.2 rfl)
      · intro b0 us wz L hslot hoth hLi hR hcl hdo K hK
        rcases HL9.out with rfl
        · have s68 : b0.tmps.getD 68 undef = .bool false := (hslot 25 68 (by rfl)).trans (hR.2 25 (done_at hdo 25 (by rfl)))
          have s76 : b0.tmps.getD 76 undef = .bool false := (hslot 33 76 (by rfl)).trans (hR.2 33 (done_at hdo 33 (by rfl)))
          clear hslot hoth hdo hcl hLi
          refine guard_none (by rfl) ?_
          go_simp
          exact hK _ _ (flat_mark (hR.1) (fun _ _ h => h) hR.2 rfl)
    · intro us wn L hall hR a' ha'
      have g34 : us 34 = .bool false := by
        have := hR.2 34 (hall 34 (by decide))
        rcases HL9.out with rfl
        all_goals exact this
      have HB := hid_of hR.1
      clear hR hall
      simp only [putAll, g34] at ha'
      subst ha'
      go_frame
      have HB10 := hid_of (below_more HB3.out HB.out)
      have HFR1 := hid_of (HFR.out _ HB.out)
      have HA10 := hid_of (HA3.out.on HB.out)
      have HCEX1 := hid_of (HCEX.out.on HB.out)
      clear HB HB3 HFR HA3 HX3 HCEL HCEX HAO HL9 HOB HGW HQL HCL
      go_wp2_with fail
      refine HFR1.out.mono ?_
      rintro e w5 ⟨g3, c3, fs3, rs3, rfl, he3, ho3, hb3⟩
      have hyl : (freeOf po (k : Int)).length = 10 := by rw [freeOf_len8]; exact HPS.out.2.2.1
      rw [hyl]
      obtain ⟨yo, hyo⟩ : ∃ yo, yo = freeOf po (k : Int) := ⟨_, rfl⟩
      rw [← hyo] at he3 hyl HFY
      have HYS : Hid (Small8 yo ∧ AllFit yo ∧ yo.length = 10) := ⟨ok_small HFY.out.1, by rw [hyo]; exact free_fit HPS.out.2.1 _, hyl⟩
      have HY5 : Hid (IsArena w5 (.slice (some ⟨g3, 0, none⟩) 10 c3) yo) := by
        have e := ho3.arena
        have e2 : fs3.length = 10 := by rw [← arOf_length, he3]; exact hyl
        rw [he3, e2] at e
        exact e
      have HB5 := hid_of (below_more HB10.out hb3)
      have HCEX2 := hid_of (HCEX1.out.on hb3)
      obtain ⟨l3, d3, m3, hc3, _⟩ := arena_at HY5.out (k := k) (by rw [hyl]; have := HK19.out; omega)
      have HCEY := hid_of hc3
      obtain ⟨G1, hG1⟩ : ∃ G1, G1 = (obAt po k).gen := ⟨_, rfl⟩
      rw [← hG1] at HFY
      have HKY : Hid ((obAt yo k).kind = 0 ∧ (obAt yo k).gen = G1) := HFY.out.2
      have HG1 : Hid ((obAt po k).gen = G1) := hG1.symm
      have HQY : Hid ((⟨g3, 0, none⟩ : Addr).add (k * 13) = ⟨g3, k * 13, none⟩) := add_head g3 (k * 13)
      have HCY : Hid (10 ≤ c3) := by (obtain ⟨_, _, hv, h, _⟩ := HY5.out; have e := (Value.slice.inj hv).2.2; have := (Value.slice.inj hv).2.1; show _ ≤ _; omega)
      have HAO2 : Hid (∀ w', Below w5.heap.size w5 w' → Calls Try.prog 8 #[.slice (some ⟨g3, 0, none⟩) 10 c3] w' fun e w'' => e = .returned (.bool true) ∧ Below w'.heap.size w' w'') := fun w' hb => by
        have e := specArenaOk_any _ yo w' (HY5.out.on hb) (by rw [HYS.out.2.2]; decide) HYS.out.1 HYS.out.2.1
        rw [HFY.out.1] at e
        exact e
      obtain ⟨W12, hW12⟩ : ∃ W12, W12 = w5 := ⟨_, rfl⟩
      subst hW12
      obtain ⟨l12, hl12⟩ : ∃ l12 : List Value, l12 = [.bool true, .bool false, .bool false, .slice (some ⟨g3, 0, none⟩) 10 c3, .bool true, .bool false, .bool false, .bool false, .slice (some ⟨g3, 0, none⟩) 10 c3, .int .i64 10, .slice (some ⟨g2, 0, none⟩) 10 c2, .int .i64 10, .bool false, .bool false, .bool false, .slice (some ⟨g3, 0, none⟩) 10 c3, .int .i64 (k : Int), .pointer (some ⟨g3, k * 13, none⟩), .pointer (some ⟨g3, k * 13 + 1, none⟩), .int .i64 0, .bool false, .bool false, .bool false, .slice (some ⟨g3, 0, none⟩) 10 c3, .int .i64 (k : Int), .pointer (some ⟨g3, k * 13, none⟩), .pointer (some ⟨g3, k * 13, none⟩), .int .i64 G1, .slice (some ⟨g2, 0, none⟩) 10 c2, .int .i64 (k : Int), .pointer (some ⟨g2, k * 13, none⟩), .pointer (some ⟨g2, k * 13, none⟩), .int .i64 G1, .bool false, .bool false] := ⟨_, rfl⟩
      have HL12 := hid_of hl12
      clear hl12 hc3 hG1 he3 ho3 hb3 hyl hyo HFR1 HB10 HA10 HCEX1
      go_wp2_with fail
      refine wp_region_whole (by kernel_rfl) (by kernel_rfl) (by kernel_rfl) (by kernel_rfl) (Flat (fun wz => Below W12.heap.size W12 wz) (gVals l12)) (flat_start (below_draw _)) ?_ ?_
      · refine ⟨?_, ?_, ?_, ?_, ?_, ?_, ?_, ?_, ?_, ?_, ?_, ?_, ?_, ?_, ?_, ?_, ?_, ?_, ?_, ?_, ?_, ?_, ?_, ?_, ?_, ?_, ?_, ?_, ?_, ?_, ?_, ?_, ?_, ?_, ?_, trivial⟩
        · intro b0 us wz L hslot hoth hLi hR hcl hdo K hK
          rcases HL12.out with rfl
          · have s8 : b0.tmps.getD 8 undef = .bool true := hoth 8 (by rfl)
            clear hslot hoth hdo hcl hLi
            refine guard_none (by rfl) ?_
            go_simp
            exact hK _ _ (flat_mark (hR.1) (fun _ _ h => h) hR.2 rfl)
        · intro b0 us wz L hslot hoth hLi hR hcl hdo K hK
          rcases HL12.out with rfl
          · have s84 : b0.tmps.getD 84 undef = .bool true := (hslot 0 84 (by rfl)).trans (hR.2 0 (done_at hdo 0 (by rfl)))
            clear hslot hoth hdo hcl hLi
            refine guard_none (by rfl) ?_
            go_simp
            exact hK _ _ (flat_mark (hR.1) (fun _ _ h => h) hR.2 rfl)
        · intro b0 us wz L hslot hoth hLi hR hcl hdo K hK
          rcases HL12.out with rfl
          · have s85 : b0.tmps.getD 85 undef = .bool false := (hslot 1 85 (by rfl)).trans (hR.2 1 (done_at hdo 1 (by rfl)))
            clear hslot hoth hdo hcl hLi
            refine guard_none (by rfl) ?_
            go_simp
            exact hK _ _ (flat_mark (hR.1) (fun _ _ h => h) hR.2 rfl)
        · intro b0 us wz L hslot hoth hLi hR hcl hdo K hK
          rcases HL12.out with rfl
          · have gg : us 2 = .bool false := hR.2 2 (done_at hdo 2 (by rfl))
            have s7 : b0.tmps.getD 7 undef = .slice (some ⟨g3, 0, none⟩) 10 c3 := hoth 7 (by rfl)
            clear hslot hoth hdo hcl hLi
            refine guard_on (j := 2) (want := false) (d := 86) (by rfl) (by rfl) gg ?_
            go_simp
            exact hK _ _ (flat_mark (hR.1) (fun _ _ h => h) hR.2 rfl)
        · intro b0 us wz L hslot hoth hLi hR hcl hdo K hK
          rcases HL12.out with rfl
          · have gg : us 2 = .bool false := hR.2 2 (done_at hdo 2 (by rfl))
            have s87 : b0.tmps.getD 87 undef = .slice (some ⟨g3, 0, none⟩) 10 c3 := (hslot 3 87 (by rfl)).trans (hR.2 3 (done_at hdo 3 (by rfl)))
            clear hslot hoth hdo hcl hLi
            refine guard_on (j := 2) (want := false) (d := 86) (by rfl) (by rfl) gg ?_
            go_simp
            refine (HAO2.out _ hR.1).mono ?_
            rintro e w' ⟨rfl, hb⟩
            exact hK _ _ (flat_mark (below_more hR.1 hb) (fun _ _ h => h) hR.2 rfl)
        · intro b0 us wz L hslot hoth hLi hR hcl hdo K hK
          rcases HL12.out with rfl
          · have gg : us 2 = .bool false := hR.2 2 (done_at hdo 2 (by rfl))
            have s88 : b0.tmps.getD 88 undef = .bool true := (hslot 4 88 (by rfl)).trans (hR.2 4 (done_at hdo 4 (by rfl)))
            clear hslot hoth hdo hcl hLi
            refine guard_on (j := 2) (want := false) (d := 86) (by rfl) (by rfl) gg ?_
            go_simp
            exact hK _ _ (flat_mark (hR.1) (fun _ _ h => h) hR.2 rfl)
        · intro b0 us wz L hslot hoth hLi hR hcl hdo K hK
          rcases HL12.out with rfl
          · have s86 : b0.tmps.getD 86 undef = .bool false := (hslot 2 86 (by rfl)).trans (hR.2 2 (done_at hdo 2 (by rfl)))
            have s89 : b0.tmps.getD 89 undef = .bool false := (hslot 5 89 (by rfl)).trans (hR.2 5 (done_at hdo 5 (by rfl)))
            clear hslot hoth hdo hcl hLi
            refine guard_none (by rfl) ?_
            go_simp
            exact hK _ _ (flat_mark (hR.1) (fun _ _ h => h) hR.2 rfl)
        · intro b0 us wz L hslot hoth hLi hR hcl hdo K hK
          rcases HL12.out with rfl
          · have s90 : b0.tmps.getD 90 undef = .bool false := (hslot 6 90 (by rfl)).trans (hR.2 6 (done_at hdo 6 (by rfl)))
            clear hslot hoth hdo hcl hLi
            refine guard_none (by rfl) ?_
            go_simp
            exact hK _ _ (flat_mark (hR.1) (fun _ _ h => h) hR.2 rfl)
        · intro b0 us wz L hslot hoth hLi hR hcl hdo K hK
          rcases HL12.out with rfl
          · have gg : us 7 = .bool false := hR.2 7 (done_at hdo 7 (by rfl))
            have s7 : b0.tmps.getD 7 undef = .slice (some ⟨g3, 0, none⟩) 10 c3 := hoth 7 (by rfl)
            clear hslot hoth hdo hcl hLi
            refine guard_on (j := 7) (want := false) (d := 91) (by rfl) (by rfl) gg ?_
            go_simp
            exact hK _ _ (flat_mark (hR.1) (fun _ _ h => h) hR.2 rfl)
        · intro b0 us wz L hslot hoth hLi hR hcl hdo K hK
          rcases HL12.out with rfl
          · have gg : us 7 = .bool false := hR.2 7 (done_at hdo 7 (by rfl))
            have s92 : b0.tmps.getD 92 undef = .slice (some ⟨g3, 0, none⟩) 10 c3 := (hslot 8 92 (by rfl)).trans (hR.2 8 (done_at hdo 8 (by rfl)))
            clear hslot hoth hdo hcl hLi
            refine guard_on (j := 7) (want := false) (d := 91) (by rfl) (by rfl) gg ?_
            go_simp
            exact hK _ _ (flat_mark (hR.1) (fun _ _ h => h) hR.2 rfl)
        · intro b0 us wz L hslot hoth hLi hR hcl hdo K hK
          rcases HL12.out with rfl
          · have gg : us 7 = .bool false := hR.2 7 (done_at hdo 7 (by rfl))
            have s5 : b0.tmps.getD 5 undef = .slice (some ⟨g2, 0, none⟩) 10 c2 := hoth 5 (by rfl)
            clear hslot hoth hdo hcl hLi
            refine guard_on (j := 7) (want := false) (d := 91) (by rfl) (by rfl) gg ?_
            go_simp
            exact hK _ _ (flat_mark (hR.1) (fun _ _ h => h) hR.2 rfl)
        · intro b0 us wz L hslot hoth hLi hR hcl hdo K hK
          rcases HL12.out with rfl
          · have gg : us 7 = .bool false := hR.2 7 (done_at hdo 7 (by rfl))
            have s94 : b0.tmps.getD 94 undef = .slice (some ⟨g2, 0, none⟩) 10 c2 := (hslot 10 94 (by rfl)).trans (hR.2 10 (done_at hdo 10 (by rfl)))
            clear hslot hoth hdo hcl hLi
            refine guard_on (j := 7) (want := false) (d := 91) (by rfl) (by rfl) gg ?_
            go_simp
            exact hK _ _ (flat_mark (hR.1) (fun _ _ h => h) hR.2 rfl)
        · intro b0 us wz L hslot hoth hLi hR hcl hdo K hK
          rcases HL12.out with rfl
          · have gg : us 7 = .bool false := hR.2 7 (done_at hdo 7 (by rfl))
            have s93 : b0.tmps.getD 93 undef = .int .i64 10 := (hslot 9 93 (by rfl)).trans (hR.2 9 (done_at hdo 9 (by rfl)))
            have s95 : b0.tmps.getD 95 undef = .int .i64 10 := (hslot 11 95 (by rfl)).trans (hR.2 11 (done_at hdo 11 (by rfl)))
            clear hslot hoth hdo hcl hLi
            refine guard_on (j := 7) (want := false) (d := 91) (by rfl) (by rfl) gg ?_
            go_simp
            exact hK _ _ (flat_mark (hR.1) (fun _ _ h => h) hR.2 rfl)
        · intro b0 us wz L hslot hoth hLi hR hcl hdo K hK
          rcases HL12.out with rfl
          · have s91 : b0.tmps.getD 91 undef = .bool false := (hslot 7 91 (by rfl)).trans (hR.2 7 (done_at hdo 7 (by rfl)))
            have s96 : b0.tmps.getD 96 undef = .bool false := (hslot 12 96 (by rfl)).trans (hR.2 12 (done_at hdo 12 (by rfl)))
            clear hslot hoth hdo hcl hLi
            refine guard_none (by rfl) ?_
            go_simp
            exact hK _ _ (flat_mark (hR.1) (fun _ _ h => h) hR.2 rfl)
        · intro b0 us wz L hslot hoth hLi hR hcl hdo K hK
          rcases HL12.out with rfl
          · have s97 : b0.tmps.getD 97 undef = .bool false := (hslot 13 97 (by rfl)).trans (hR.2 13 (done_at hdo 13 (by rfl)))
            clear hslot hoth hdo hcl hLi
            refine guard_none (by rfl) ?_
            go_simp
            exact hK _ _ (flat_mark (hR.1) (fun _ _ h => h) hR.2 rfl)
        · intro b0 us wz L hslot hoth hLi hR hcl hdo K hK
          rcases HL12.out with rfl
          · have gg : us 14 = .bool false := hR.2 14 (done_at hdo 14 (by rfl))
            have s7 : b0.tmps.getD 7 undef = .slice (some ⟨g3, 0, none⟩) 10 c3 := hoth 7 (by rfl)
            clear hslot hoth hdo hcl hLi
            refine guard_on (j := 14) (want := false) (d := 98) (by rfl) (by rfl) gg ?_
            go_simp
            exact hK _ _ (flat_mark (hR.1) (fun _ _ h => h) hR.2 rfl)
        · intro b0 us wz L hslot hoth hLi hR hcl hdo K hK
          rcases HL12.out with rfl
          · have gg : us 14 = .bool false := hR.2 14 (done_at hdo 14 (by rfl))
            have s6 : b0.tmps.getD 6 undef = .int .i64 (k : Int) := hoth 6 (by rfl)
            clear hslot hoth hdo hcl hLi
            refine guard_on (j := 14) (want := false) (d := 98) (by rfl) (by rfl) gg ?_
            go_simp
            exact hK _ _ (flat_mark (hR.1) (fun _ _ h => h) hR.2 rfl)
        · intro b0 us wz L hslot hoth hLi hR hcl hdo K hK
          rcases HL12.out with rfl
          · have gg : us 14 = .bool false := hR.2 14 (done_at hdo 14 (by rfl))
            have s99 : b0.tmps.getD 99 undef = .slice (some ⟨g3, 0, none⟩) 10 c3 := (hslot 15 99 (by rfl)).trans (hR.2 15 (done_at hdo 15 (by rfl)))
            have s100 : b0.tmps.getD 100 undef = .int .i64 (k : Int) := (hslot 16 100 (by rfl)).trans (hR.2 16 (done_at hdo 16 (by rfl)))
            have hq := HQY.out
            have hkz := HKZ.out
            have hcc := HCY.out
            clear hslot hoth hdo hcl hLi
            refine guard_on (j := 14) (want := false) (d := 98) (by rfl) (by rfl) gg ?_
            go_simp
            exact hK _ _ (flat_mark (hR.1) (fun _ _ h => h) hR.2 rfl)
        · intro b0 us wz L hslot hoth hLi hR hcl hdo K hK
          rcases HL12.out with rfl
          · have gg : us 14 = .bool false := hR.2 14 (done_at hdo 14 (by rfl))
            have s101 : b0.tmps.getD 101 undef = .pointer (some ⟨g3, k * 13, none⟩) := (hslot 17 101 (by rfl)).trans (hR.2 17 (done_at hdo 17 (by rfl)))
            clear hslot hoth hdo hcl hLi
            refine guard_on (j := 14) (want := false) (d := 98) (by rfl) (by rfl) gg ?_
            go_simp
            exact hK _ _ (flat_mark (hR.1) (fun _ _ h => h) hR.2 rfl)
        · intro b0 us wz L hslot hoth hLi hR hcl hdo K hK
          rcases HL12.out with rfl
          · have gg : us 14 = .bool false := hR.2 14 (done_at hdo 14 (by rfl))
            have s102 : b0.tmps.getD 102 undef = .pointer (some ⟨g3, k * 13 + 1, none⟩) := (hslot 18 102 (by rfl)).trans (hR.2 18 (done_at hdo 18 (by rfl)))
            have xx := (HCEY.out.on hR.1).c1
            rw [HKY.out.1] at xx
            clear hslot hoth hdo hcl hLi
            refine guard_on (j := 14) (want := false) (d := 98) (by rfl) (by rfl) gg ?_
            go_simp
            exact hK _ _ (flat_mark (hR.1) (fun _ _ h => h) hR.2 rfl)
        · intro b0 us wz L hslot hoth hLi hR hcl hdo K hK
          rcases HL12.out with rfl
          · have gg : us 14 = .bool false := hR.2 14 (done_at hdo 14 (by rfl))
            have s103 : b0.tmps.getD 103 undef = .int .i64 0 := (hslot 19 103 (by rfl)).trans (hR.2 19 (done_at hdo 19 (by rfl)))
            clear hslot hoth hdo hcl hLi
            refine guard_on (j := 14) (want := false) (d := 98) (by rfl) (by rfl) gg ?_
            go_simp
            exact hK _ _ (flat_mark (hR.1) (fun _ _ h => h) hR.2 rfl)
        · intro b0 us wz L hslot hoth hLi hR hcl hdo K hK
          rcases HL12.out with rfl
          · have s98 : b0.tmps.getD 98 undef = .bool false := (hslot 14 98 (by rfl)).trans (hR.2 14 (done_at hdo 14 (by rfl)))
            have s104 : b0.tmps.getD 104 undef = .bool false := (hslot 20 104 (by rfl)).trans (hR.2 20 (done_at hdo 20 (by rfl)))
            clear hslot hoth hdo hcl hLi
            refine guard_none (by rfl) ?_
            go_simp
            exact hK _ _ (flat_mark (hR.1) (fun _ _ h => h) hR.2 rfl)
        · intro b0 us wz L hslot hoth hLi hR hcl hdo K hK
          rcases HL12.out with rfl
          · have s105 : b0.tmps.getD 105 undef = .bool false := (hslot 21 105 (by rfl)).trans (hR.2 21 (done_at hdo 21 (by rfl)))
            clear hslot hoth hdo hcl hLi
            refine guard_none (by rfl) ?_
            go_simp
            exact hK _ _ (flat_mark (hR.1) (fun _ _ h => h) hR.2 rfl)
        · intro b0 us wz L hslot hoth hLi hR hcl hdo K hK
          rcases HL12.out with rfl
          · have gg : us 22 = .bool false := hR.2 22 (done_at hdo 22 (by rfl))
            have s7 : b0.tmps.getD 7 undef = .slice (some ⟨g3, 0, none⟩) 10 c3 := hoth 7 (by rfl)
            clear hslot hoth hdo hcl hLi
            refine guard_on (j := 22) (want := false) (d := 106) (by rfl) (by rfl) gg ?_
            go_simp
            exact hK _ _ (flat_mark (hR.1) (fun _ _ h => h) hR.2 rfl)
        · intro b0 us wz L hslot hoth hLi hR hcl hdo K hK
          rcases HL12.out with rfl
          · have gg : us 22 = .bool false := hR.2 22 (done_at hdo 22 (by rfl))
            have s6 : b0.tmps.getD 6 undef = .int .i64 (k : Int) := hoth 6 (by rfl)
            clear hslot hoth hdo hcl hLi
            refine guard_on (j := 22) (want := false) (d := 106) (by rfl) (by rfl) gg ?_
            go_simp
            exact hK _ _ (flat_mark (hR.1) (fun _ _ h => h) hR.2 rfl)
        · intro b0 us wz L hslot hoth hLi hR hcl hdo K hK
          rcases HL12.out with rfl
          · have gg : us 22 = .bool false := hR.2 22 (done_at hdo 22 (by rfl))
            have s107 : b0.tmps.getD 107 undef = .slice (some ⟨g3, 0, none⟩) 10 c3 := (hslot 23 107 (by rfl)).trans (hR.2 23 (done_at hdo 23 (by rfl)))
            have s108 : b0.tmps.getD 108 undef = .int .i64 (k : Int) := (hslot 24 108 (by rfl)).trans (hR.2 24 (done_at hdo 24 (by rfl)))
            have hq := HQY.out
            have hkz := HKZ.out
            have hcc := HCY.out
            clear hslot hoth hdo hcl hLi
            refine guard_on (j := 22) (want := false) (d := 106) (by rfl) (by rfl) gg ?_
            go_simp
            exact hK _ _ (flat_mark (hR.1) (fun _ _ h => h) hR.2 rfl)
        · intro b0 us wz L hslot hoth hLi hR hcl hdo K hK
          rcases HL12.out with rfl
          · have gg : us 22 = .bool false := hR.2 22 (done_at hdo 22 (by rfl))
            have s109 : b0.tmps.getD 109 undef = .pointer (some ⟨g3, k * 13, none⟩) := (hslot 25 109 (by rfl)).trans (hR.2 25 (done_at hdo 25 (by rfl)))
            clear hslot hoth hdo hcl hLi
            refine guard_on (j := 22) (want := false) (d := 106) (by rfl) (by rfl) gg ?_
            go_simp
            exact hK _ _ (flat_mark (hR.1) (fun _ _ h => h) hR.2 rfl)
        · intro b0 us wz L hslot hoth hLi hR hcl hdo K hK
          rcases HL12.out with rfl
          · have gg : us 22 = .bool false := hR.2 22 (done_at hdo 22 (by rfl))
            have s110 : b0.tmps.getD 110 undef = .pointer (some ⟨g3, k * 13, none⟩) := (hslot 26 110 (by rfl)).trans (hR.2 26 (done_at hdo 26 (by rfl)))
            have xx := (HCEY.out.on hR.1).c0
            rw [HKY.out.2] at xx
            clear hslot hoth hdo hcl hLi
            refine guard_on (j := 22) (want := false) (d := 106) (by rfl) (by rfl) gg ?_
            go_simp
            exact hK _ _ (flat_mark (hR.1) (fun _ _ h => h) hR.2 rfl)
        · intro b0 us wz L hslot hoth hLi hR hcl hdo K hK
          rcases HL12.out with rfl
          · have gg : us 22 = .bool false := hR.2 22 (done_at hdo 22 (by rfl))
            have s5 : b0.tmps.getD 5 undef = .slice (some ⟨g2, 0, none⟩) 10 c2 := hoth 5 (by rfl)
            clear hslot hoth hdo hcl hLi
            refine guard_on (j := 22) (want := false) (d := 106) (by rfl) (by rfl) gg ?_
            go_simp
            exact hK _ _ (flat_mark (hR.1) (fun _ _ h => h) hR.2 rfl)
        · intro b0 us wz L hslot hoth hLi hR hcl hdo K hK
          rcases HL12.out with rfl
          · have gg : us 22 = .bool false := hR.2 22 (done_at hdo 22 (by rfl))
            have s6 : b0.tmps.getD 6 undef = .int .i64 (k : Int) := hoth 6 (by rfl)
            clear hslot hoth hdo hcl hLi
            refine guard_on (j := 22) (want := false) (d := 106) (by rfl) (by rfl) gg ?_
            go_simp
            exact hK _ _ (flat_mark (hR.1) (fun _ _ h => h) hR.2 rfl)
        · intro b0 us wz L hslot hoth hLi hR hcl hdo K hK
          rcases HL12.out with rfl
          · have gg : us 22 = .bool false := hR.2 22 (done_at hdo 22 (by rfl))
            have s112 : b0.tmps.getD 112 undef = .slice (some ⟨g2, 0, none⟩) 10 c2 := (hslot 28 112 (by rfl)).trans (hR.2 28 (done_at hdo 28 (by rfl)))
            have s113 : b0.tmps.getD 113 undef = .int .i64 (k : Int) := (hslot 29 113 (by rfl)).trans (hR.2 29 (done_at hdo 29 (by rfl)))
            have hq := HQX.out
            have hkz := HKZ.out
            have hcc := HCX.out
            clear hslot hoth hdo hcl hLi
            refine guard_on (j := 22) (want := false) (d := 106) (by rfl) (by rfl) gg ?_
            go_simp
            exact hK _ _ (flat_mark (hR.1) (fun _ _ h => h) hR.2 rfl)
        · intro b0 us wz L hslot hoth hLi hR hcl hdo K hK
          rcases HL12.out with rfl
          · have gg : us 22 = .bool false := hR.2 22 (done_at hdo 22 (by rfl))
            have s114 : b0.tmps.getD 114 undef = .pointer (some ⟨g2, k * 13, none⟩) := (hslot 30 114 (by rfl)).trans (hR.2 30 (done_at hdo 30 (by rfl)))
            clear hslot hoth hdo hcl hLi
            refine guard_on (j := 22) (want := false) (d := 106) (by rfl) (by rfl) gg ?_
            go_simp
            exact hK _ _ (flat_mark (hR.1) (fun _ _ h => h) hR.2 rfl)
        · intro b0 us wz L hslot hoth hLi hR hcl hdo K hK
          rcases HL12.out with rfl
          · have gg : us 22 = .bool false := hR.2 22 (done_at hdo 22 (by rfl))
            have s115 : b0.tmps.getD 115 undef = .pointer (some ⟨g2, k * 13, none⟩) := (hslot 31 115 (by rfl)).trans (hR.2 31 (done_at hdo 31 (by rfl)))
            have xx := (HCEX2.out.on hR.1).c0
            rw [HG1.out] at xx
            clear hslot hoth hdo hcl hLi
            refine guard_on (j := 22) (want := false) (d := 106) (by rfl) (by rfl) gg ?_
            go_simp
            exact hK _ _ (flat_mark (hR.1) (fun _ _ h => h) hR.2 rfl)
        · intro b0 us wz L hslot hoth hLi hR hcl hdo K hK
          rcases HL12.out with rfl
          · have gg : us 22 = .bool false := hR.2 22 (done_at hdo 22 (by rfl))
            have s111 : b0.tmps.getD 111 undef = .int .i64 G1 := (hslot 27 111 (by rfl)).trans (hR.2 27 (done_at hdo 27 (by rfl)))
            have s116 : b0.tmps.getD 116 undef = .int .i64 G1 := (hslot 32 116 (by rfl)).trans (hR.2 32 (done_at hdo 32 (by rfl)))
            clear hslot hoth hdo hcl hLi
            refine guard_on (j := 22) (want := false) (d := 106) (by rfl) (by rfl) gg ?_
            go_simp
            exact hK _ _ (flat_mark (hR.1) (fun _ _ h => h) hR.2 rfl)
        · intro b0 us wz L hslot hoth hLi hR hcl hdo K hK
          rcases HL12.out with rfl
          · have s106 : b0.tmps.getD 106 undef = .bool false := (hslot 22 106 (by rfl)).trans (hR.2 22 (done_at hdo 22 (by rfl)))
            have s117 : b0.tmps.getD 117 undef = .bool false := (hslot 33 117 (by rfl)).trans (hR.2 33 (done_at hdo 33 (by rfl)))
            clear hslot hoth hdo hcl hLi
            refine guard_none (by rfl) ?_
            go_simp
            exact hK _ _ (flat_mark (hR.1) (fun _ _ h => h) hR.2 rfl)
      · intro us wn L hall hR a' ha'
        have g34 : us 34 = .bool false := by
          have := hR.2 34 (hall 34 (by decide))
          rcases HL12.out with rfl
          all_goals exact this
        have HB := hid_of hR.1
        clear hR hall
        simp only [putAll, g34] at ha'
        subst ha'
        go_frame
        have HB13 := hid_of (below_more HB5.out HB.out)
        clear HB HB5 HY5 HCEX2 HCEY HAO2 HL12 HQY HCY HQX HCX HKY HG1 HFY HYS HPS HKI HOK2 HKZ HK19 HKN HSM n1 n2 n3
        go_wp2_with fail
        refine (HCF.out _ HB13.out).mono ?_
        rintro e w6 ⟨gm, n', c', ms, x, rfl, hxr, hl, hn, hx, hs, hf, hb⟩
        have HB6 := hid_of (below_more HB13.out hb)
        have hsm : Small8 ms := hl13 hs
        have ha := arN_le hs
        have HX6 := hid_of hx
        have HMS := hid_of (And.intro hsm (And.intro hf (And.intro hn hl)))
        obtain ⟨zo, hzo⟩ : ∃ zo, zo = freeOf ms x := ⟨_, rfl⟩
        obtain ⟨zb, hzb⟩ : ∃ zb, zb = freeB ms x := ⟨_, rfl⟩
        have hzl : zo.length = n' := by rw [hzo, freeOf_len8]; exact hl
        have CF : Hid (Calls Try.prog 9 #[.slice (some ⟨gm, 0, none⟩) n' c', .int .i64 x] w6 fun e w'' => FreeAns zo zb w6 e w'') := by
          have e := implFree_any ⟨gm, 0, none⟩ c' ms x w6 (by rw [hl]; exact hx) (by omega) hsm (by rw [hl] at ha ⊢; omega)
          rw [hl, ← hzo, ← hzb] at e
          exact e
        have HZL := hid_of hzl
        have HZO := hid_of hzo
        have HZB := hid_of hzb
        clear hb hx hs hf hn hl ha hsm hzl hzo hzb HB13 HCF hxr
        go_wp2_with fail
        refine CF.out.mono ?_
        rintro e w7 ⟨g4, c4, fs4, rs4, rfl, he4, ho4, hb4⟩
        rw [HZL.out]
        have HB7 := hid_of (below_more HB6.out hb4)
        have HX7 := hid_of (HX6.out.on hb4)
        have HZ7 : Hid (IsArena w7 (.slice (some ⟨g4, 0, none⟩) n' c4) zo) := by
          have e := ho4.arena
          have e2 : fs4.length = n' := by rw [← arOf_length, he4]; exact HZL.out
          rw [he4, e2] at e
          exact e
        clear CF HB6 HX6 he4 ho4 hb4
        cases hp : freeB ms x with
        | false =>
          obtain rfl : zb = false := HZB.out.trans hp
          obtain rfl : zo = ms := HZO.out.trans (by unfold freeOf; rw [hp]; rfl)
          have CS := specSameA_any _ _ zo zo w7 HZ7.out HX7.out (by have := HZL.out; have := HMS.out.2.2.1; omega) HMS.out.1
          rw [sameA_self] at CS
          clear hp HZO HZB
          go_wp2_with fail
          refine CS.mono ?_
          rintro e w8 ⟨rfl, hb⟩
          have HB8 := hid_of (below_more HB7.out hb)
          clear hb CS
          go_wp2
          go_ret
          exact ⟨rfl, HB8.out⟩
        | true =>
          obtain ⟨q, rfl, hq19, hok, hlen, hqz⟩ := free_was hp
          obtain rfl : zb = true := HZB.out.trans hp
          obtain rfl : n' = 10 := HMS.out.2.2.2.symm.trans hlen
          have hql : q < ms.length := by omega
          have hfy := free_yes hok hq19.1 hq19.2 hqz
          have HLD : Hid (∀ j, j < 10 → (obAt zo j).into ≠ (q : Int) ∧ hasI (obAt zo j).ls (q : Int) = false) := fun j hj => by
            rw [HZO.out]
            exact free_leads hp hql (by omega)
          rw [← HZO.out] at hfy
          have HOKZ := hid_of hfy.2.1
          have HGD : Hid (∀ g, goodOf zo 0 0 (handleOf 0 (q : Int) g) = -1) := fun g => good_freed hfy.2.1 hfy.2.2.1
          have HZS : Hid (Small8 zo ∧ AllFit zo ∧ zo.length = 10) := ⟨ok_small hfy.2.1, by rw [HZO.out]; exact free_fit HMS.out.2.1 _, HZL.out⟩
          have HQN := hid_of hq19
          have HCZ : Hid (10 ≤ c4) := by (obtain ⟨_, _, hv, h, _⟩ := HZ7.out; have e := (Value.slice.inj hv).2.2; have := (Value.slice.inj hv).2.1; show _ ≤ _; omega)
          have HCM : Hid (10 ≤ c') := by (obtain ⟨_, _, hv, h, _⟩ := HX7.out; have e := (Value.slice.inj hv).2.2; have := (Value.slice.inj hv).2.1; show _ ≤ _; omega)
          have n1 : decide ((q : Int) < 0) = false := by simp
          have n2 : decide ((q : Int) ≥ 10) = false := by simp; omega
          have n3 : decide ((10 : Int) ≤ (q : Int)) = false := by simp; omega
          have HMQ : Hid (q < ms.length) := hql
          clear hq19 hok hlen hqz hql hfy hp HZO HZB HZL
          go_wp2
          clear n1 n2 n3
          obtain ⟨W4, hW4⟩ : ∃ W4, W4 = w7 := ⟨_, rfl⟩
          subst hW4
          go_loopw [13] (fun s13 wr => ∃ j : Nat, j ≤ 10 ∧ s13 = .int .i64 j ∧ Hid (Below W4.heap.size W4 wr)) (fun s13 _ => 10 - (intOf s13).toNat)
          case atStart => exact ⟨0, by omega, rfl, Below.refl _ _⟩
          case round =>
            obtain ⟨j, hj, rfl, hin⟩ := hrel
            by_cases hlt : j < 10
            · have hd : decide ((j : Int) < 10) = true := decide_eq_true (by omega)
              have hjz : (j : Int) < 10 := by omega
              obtain ⟨l5, d5, m5, hc5, hi5⟩ := arena_at (HZ7.out.on hin.out) (k := j) (by rw [HZS.out.2.2]; exact hlt)
              have hld := HLD.out j hlt
              have c1 := hc5.c1
              have c2' := hc5.c2
              have c10 := hc5.c10
              have hqq := add_head g4 (j * 13)
              have hcz := HCZ.out
              have hls5 : (obAt zo j).ls.length ≤ 9223372036854775807 := by have e := HZS.out.1 j; unfold obN at e; omega
              have CH := lawHas_any l5 (obAt zo j).ls (q : Int) wr hi5 hls5
              rw [hld.2] at CH
              obtain ⟨la5, lc5, hl5, _⟩ := id hi5
              have ni : ((obAt zo j).into == (q : Int)) = false := by simp [hld.1]
              subst hl5
              obtain ⟨ln5, hn5⟩ : ∃ ln5, ln5 = (obAt zo j).ls.length := ⟨_, rfl⟩
              rw [← hn5] at c10 CH
              clear hc5 hi5 hld hls5 hn5
              generalize (obAt zo j).kind = y at c1
              generalize (obAt zo j).into = y2 at c2' ni
              cases hyz : (y != 0) with
              | false =>
                clear CH
                go_wp2
                go_roundw
                case rel => exact ⟨j + 1, by omega, by go_num, hin⟩
                case measure => simp [intOf]; omega
              | true =>
                go_wp2_with fail
                refine CH.mono ?_
                rintro e w8 ⟨rfl, rfl⟩
                clear CH
                go_wp2
                go_roundw
                case rel => exact ⟨j + 1, by omega, by go_num, hin⟩
                case measure => simp [intOf]; omega
            · obtain rfl : j = 10 := by omega
              have HIN := hid_of hin.out
              have CA := specArenaOk_any _ zo wr (HZ7.out.on hin.out) (by rw [HZS.out.2.2]; decide) HZS.out.1 HZS.out.2.1
              rw [HOKZ.out] at CA
              clear hin
              go_wp2_with fail
              refine CA.mono ?_
              rintro e w8 ⟨rfl, hb⟩
              have HIN8 := hid_of (below_more HIN.out hb)
              obtain ⟨l6, d6, m6, hc6, _⟩ := arena_at (HX7.out.on HIN8.out) HMQ.out
              have c0 := hc6.c0
              obtain ⟨G2, hG2⟩ : ∃ G2, G2 = (obAt ms q).gen := ⟨_, rfl⟩
              rw [← hG2] at c0
              have hqq := add_head gm (q * 13)
              have hcz := HCM.out
              have hqz : (q : Int) < 10 := by have := HQN.out; omega
              clear hb CA hc6 hG2 HIN
              go_wp2_with fail
              refine (specHandleOf_any 0 (q : Int) G2 _).mono ?_
              rintro e w9 ⟨rfl, rfl⟩
              have CG := implGood_any _ zo 0 0 (handleOf 0 (q : Int) G2) w8 (HZ7.out.on HIN8.out) (by rw [HZS.out.2.2]; decide) HZS.out.1
              rw [HGD.out] at CG
              go_wp2_with fail
              refine CG.mono ?_
              rintro e w10 ⟨rfl, hb⟩
              have HBF := hid_of (below_more HB7.out (below_more HIN8.out hb))
              clear hb CG c0 HIN8
              go_wp2
              go_ret
              exact ⟨rfl, HBF.out⟩
end Go.Proofs.Ytokicnopfmokaaa
namespace Go.Proofs.Ytokicnopfmokaaa
open Go.ChangeShapes Go.WideShapes Go.ChangeAt Go.RowKit
open Go.ChangeMaps (open_string shut_string)
set_option linter.unusedVariables false
set_option maxRecDepth 100000

set_option maxRecDepth 100000 in
theorem walkBigArena (w : World) (a : Option Addr) (len cap : Nat) (h : 1048576 < len) :
    Calls Try.prog 3 #[.slice a len cap] w fun e w' => e = .returned (.bool true) ∧ Below w.heap.size w w' := by
  have C := big_yes w a len cap (by omega)
  go_enter Try.func3, Try.ntmps3
  go_wp2_with fail
  refine C.mono ?_
  rintro e w0 ⟨rfl, rfl⟩
  go_wp2
  go_ret
  exact ⟨rfl, Below.refl _ _⟩
namespace Arena
theorem own : ownKnob Try.prog.godebug = none := by kernel_rfl
theorem laidOut : laidOutB Try.prog = true := by kernel_rfl

/-- A slice of bytes that came in. -/
def IsRow (k : IntKind) (w : World) (a : Option Addr) (len cap : Nat) (zs : List Int) : Prop :=
  (a = none ∧ len = 0 ∧ cap = 0 ∧ zs = []) ∨
  ∃ x, a = some x ∧ len ≤ cap ∧ cap ≤ maxLen ∧ zs.length = cap ∧ (∀ i, i < zs.length → w.cell? (x.add i) = some (.int k (zs.getD i 0))) ∧ ∀ n ∈ zs, (Lit.int k n).wf = true

theorem code_of {w : World} {a : Option Addr} {len cap : Nat} {zs : List Int} (h : IsRow .u8 w a len cap zs) (hl : len ≤ 1048576) : Code0 w a len (fun i => (zs.getD i 0).toNat) := by
  have hb : ∀ i, 0 ≤ zs.getD i 0 ∧ zs.getD i 0 ≤ 255 := by
    intro i
    rcases h with ⟨_, _, _, rfl⟩ | ⟨x, _, _, _, _, _, hwf⟩
    · simp
    · by_cases hi : i < zs.length
      · have := hwf (zs.getD i 0) (by rw [List.getD_eq_getElem?_getD, List.getElem?_eq_getElem hi]; simp)
        have := bounds_u8 this
        omega
      · rw [List.getD_eq_getElem?_getD, List.getElem?_eq_none (by omega)]; simp
  refine ⟨hl, fun i => by have := hb i; omega, fun i hi => ?_⟩
  rcases h with ⟨_, rfl, _, _⟩ | ⟨x, rfl, hlc, _, hz, hc, _⟩
  · omega
  · have h1 := hc i (by omega)
    obtain ⟨b, off, spot⟩ := x
    have hs : spot = none := by
      have h0 := hc 0 (by omega)
      simpa [Addr.add] using World.cell?_spot h0
    subst hs
    have e : (⟨b, off, none⟩ : Addr).add i = ⟨b, off + i, none⟩ := by unfold Addr.add; split <;> simp_all
    rw [e] at h1
    refine ⟨b, off, rfl, World.block_lt_of_cell? w _ h1, ?_⟩
    rw [h1]
    have := hb i
    simp only [Option.some.injEq, Value.int.injEq, true_and]
    omega

theorem walk (a0 : Option Addr) (len0 cap0 : Nat) (z0 : List Int) (w : World) (w0 : IsRow .u8 w a0 len0 cap0 z0) :
    Calls Try.prog 3 #[.slice a0 len0 cap0] w fun e w' => e = .returned (.bool true) ∧ Below w.heap.size w w' := by
  by_cases hbig : 1048576 < len0
  · exact walkBigArena w a0 len0 cap0 hbig
  · exact walkArena w a0 len0 cap0 _ (code_of w0 (by omega))

set_option maxRecDepth 100000 in
theorem lifted (os : Os) (started : os.Started) (H : Type) (enc : TypeId × Value → H) :
    ReturnsInHanded {} Try.checked os 3 .any (Rows.fnArenaSpec.pre6 enc Try.prog Try.f3 Rows.fnArenaRow.domain false) (Rows.fnArenaSpec.post enc Try.prog Try.f3 false true false false) := by
  refine returnsInHanded_of_change (C := Try.checked) own started (by kernel_rfl) Try.func3
    (ChangeSpec.witness6 (enc := enc) (C := Try.checked) false ⟨#[], #[.slice none 0 0], []⟩ 8 (by kernel_rfl) (by kernel_rfl) (by kernel_rfl) (by kernel_rfl)) ?_
  intro W base args ds gs before hval0 hW hcnd _
  have hval : ∀ (j : Nat) t v, Try.f3.params[j]? = some t → args[j]? = some v → Value.okWide Try.prog W .any base t v := hval0
  have hW' := hW
  obtain ⟨p, q, hA0, hV, rfl, hfz, hnd⟩ := hW
  have hA : DataW.TrodAll enc Try.prog W 0 (fun _ => true) true Try.f3.params.toList args.toList ds p := hA0
  rw [Try.params3] at hA hval
  obtain ⟨v0, vs0, d0, ds0, p0, q0, hargs, rfl, rfl, h0, r0⟩ := trodAll_cons hA
  obtain ⟨rfl, rfl, rfl⟩ := trodAll_nil r0
  obtain rfl : args = #[v0] := by cases args; simp_all
  obtain ⟨rfl, rfl⟩ := trodVars_none hV
  obtain ⟨a0, len0, cap0, rfl⟩ := okWide_slice Try.underlying22 (hval 0 22 v0 rfl rfl)
  have k0 := h0
  have lt0 : ∀ x ∈ p0, x.block < W.heap.size := by obtain ⟨m, hm⟩ := k0; exact DataW.trod_lt m _ _ _ hm
  obtain ⟨z0, w0⟩ : ∃ zs, IsRow .u8 W a0 len0 cap0 zs := by
    obtain ⟨fuel, hf⟩ := h0
    rcases open_ints Try.underlying22 Try.underlying5 (by kernel_rfl) hf with ⟨hcs, _⟩ | ⟨x, l, c, zs, hcs, _, hl, hm, hz, _, hcell, hwz⟩
    · simp [Value.cells] at hcs
      obtain ⟨rfl, rfl, rfl⟩ := hcs
      exact ⟨[], .inl ⟨rfl, rfl, rfl, rfl⟩⟩
    · simp [Value.cells] at hcs
      obtain ⟨rfl, rfl, rfl⟩ := hcs
      exact ⟨zs, .inr ⟨_, rfl, hl, hm, by simpa using hz, hcell, hwz⟩⟩
  clear hA0 hval0
  refine (walk a0 len0 cap0 z0 W w0).mono fun e W' ⟨he, bel⟩ => ?_
  subst he
  exact ⟨_, rfl, _, _, _, [], _, [], hW', trodAll_mk1 (shut_bool Try.underlying4 _), (trodAll_cons_mk (Below.trod laidOut (by kernel_rfl) (of_decide_eq_true (by kernel_rfl)) k0 bel lt0) trodAll_mk0), rfl, bel.frame _, fun h => by cases h⟩

theorem over : Rows.fnArenaRow.holds Try.pinned (OpenSpec.ofChange Rows.fnArenaSpec) :=
  OpenClaim.holds_of_wide 3 Try.f3 rfl rfl rfl rfl rfl rfl rfl ⟨rfl, rfl, rfl, rfl, rfl⟩ rfl rfl rfl rfl rfl (by kernel_rfl) Try.func3 (by kernel_rfl)
    (of_decide_eq_true (by kernel_rfl)) (by unfold Func.isWrapper; first | (rw [if_pos (by decide +kernel)]; kernel_rfl) | (rw [if_neg (by decide +kernel)]; exact ⟨rfl, rfl⟩))
    (fun os started H enc _ => lifted os started H enc)

end Arena
/-- The law answers true at every code. -/
theorem arena_holds : Rows.FnArenaSaid := Arena.over
#print axioms arena_holds
end Go.Proofs.Ytokicnopfmokaaa
