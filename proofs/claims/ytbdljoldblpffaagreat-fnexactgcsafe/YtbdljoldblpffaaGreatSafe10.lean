/-
  Is a collector safe: the program. GcSafe: the program. GcSafe: the model.
-/
import Derived.Test.YtbdljoldblpffaaGreatOkH
import Derived.Test.YtbdljoldblpffaaGreatLawHB
import Derived.Test.YtbdljoldblpffaaGreatReachI9
import Derived.Test.YtbdljoldblpffaaGreatCopyI8
import Derived.Test.YtbdljoldblpffaaGreatOkHS
import Derived.Test.YtbdljoldblpffaaGreatReachS9
import Derived.Test.YtbdljoldblpffaaGreatEdgeS9
namespace Go.Proofs.YtbdljoldblpffaaGreat
open Go.RowKit
set_option linter.unusedVariables false
set_option maxRecDepth 100000

theorem ar_at {w : World} {pa : Addr} {c n : Nat} {os : List Ob} (h : IsArena w (.slice (some pa) n c) os) {k : Nat} (hk : k < os.length) : ∃ q l d m, pa.add (k * 13) = q ∧ ObCells w q (obAt os k) l d m := by
  obtain ⟨p, q, l, d, m, e1, e2, e3, _⟩ := h.at hk
  cases e1
  exact ⟨q, l, d, m, e2, e3⟩
/-- Would a thing go, though it is reached? -/
def missB (os : List Ob) (rr : List Bool) (i : Nat) : Bool := !(decide (i = 0)) && (gAt rr i && !(obAt os i).mark)
/-- Does a thing that was looked at lead to one that would go? -/
def darkB (os : List Ob) (xs : List Int) (rr : List Bool) (i : Nat) : Bool := gAt rr i && ((decide (i = 0) || (obAt os i).mark) && (!(hasI xs (i : Int)) && (edgesTo os i 10).any fun e => missB os rr e.toNat))
def sweepB (os : List Ob) (t : Int) (rr : List Bool) (i : Nat) : Bool := if (i : Int) < t then (obAt os i).mark else missB os rr i
def noneTo (f : Nat → Bool) (n : Nat) : Bool := (List.range n).all fun i => !(f i)
theorem noneTo_next (f : Nat → Bool) (n : Nat) : noneTo f (n + 1) = (noneTo f n && !(f n)) := by simp [noneTo, List.range_succ]
theorem noneTo_no {f : Nat → Bool} {k n : Nat} (hk : k < n) (h : f k = true) : noneTo f n = false := by
  cases e : noneTo f n with
  | false => rfl
  | true =>
    have := List.all_eq_true.1 e k (List.mem_range.2 hk)
    rw [h] at this
    simp at this
theorem noneTo_yes {f : Nat → Bool} {n : Nat} (h : noneTo f n = true) (hn : f n = false) : noneTo f (n + 1) = true := by rw [noneTo_next, h, hn]; rfl
def safeOk (os : List Ob) (p t r : Int) (xs : List Int) (now : Int) : Bool := heapOk os p t r xs && (if p = 0 then noneTo (darkB os xs (reached (ledB os now))) 10 else noneTo (sweepB os t (reached (ledB os now))) 10)
theorem bools_at {w : World} {v : Value} {rr : List Bool} (h : IsBools w v rr) {i : Nat} (hi : i < rr.length) : ∃ p c, v = .slice (some p) rr.length c ∧ w.cell? (p.add i) = some (.bool (gAt rr i)) := by
  obtain ⟨a, c, rfl, _, hx⟩ := h
  obtain ⟨p, rfl, hp⟩ := hx i hi
  exact ⟨p, c, rfl, hp⟩
theorem ar_sl {w : World} {pa : Addr} {c n : Nat} {os : List Ob} (h : IsArena w (.slice (some pa) n c) os) {k : Nat} (hk : k < os.length) : ∃ q a1 n1 d1 a2 n2 d2 a3 n3 d3, pa.add (k * 13) = q ∧ ObCells w q (obAt os k) (.slice a1 n1 d1) (.slice a2 n2 d2) (.slice a3 n3 d3) := by
  obtain ⟨p, q, l, d, m, e1, e2, e3, e4⟩ := h.at hk
  cases e1
  obtain ⟨⟨a, c, rfl, _, _⟩, ⟨a', c', rfl, _, _⟩, ⟨a'', c'', rfl, _, _⟩⟩ := e4
  exact ⟨q, _, _, _, _, _, _, _, _, _, e2, e3⟩
theorem isMissed_any (b : Nat) (pa : Addr) (c : Nat) (p t r : Int) (G v : Value) (os : List Ob) (rr : List Bool) (i : Nat) (w : World) (hb : w.heap[b]? = some (boxH (.slice (some pa) os.length c) p t r G)) (ha : IsArena w (.slice (some pa) os.length c) os) (hv : IsBools w v rr) (hi : i < os.length) (hr : i < rr.length) (hl : os.length ≤ 1048576) :
    Calls Tryz.prog 89 #[.pointer (some ⟨b, 0, none⟩), .int .i64 (i : Int), v] w fun e w' => e = .returned (.bool (missB os rr i)) ∧ w = w' := by
  obtain ⟨pv, cv, rfl, hcv⟩ := bools_at hv hr
  obtain ⟨k0, k1, k2, k3, k4⟩ := cells5 hb
  obtain ⟨q, l, d, m, hq, hc⟩ := ar_at ha hi
  have c9 := hc.c9
  have hiz : (i : Int) < (os.length : Int) := by omega
  have hrz : (i : Int) < (rr.length : Int) := by omega
  unfold missB
  generalize gAt rr i = o1 at hcv ⊢
  generalize (obAt os i).mark = o2 at c9 ⊢
  clear hb ha hv hc hl
  by_cases h0 : i = 0
  · subst h0
    clear hrz hiz
    go_enter Tryz.func89, Tryz.ntmps89
    go_wp2
    go_ret
    exact ⟨by simp, rfl⟩
  · have n0 : ((i : Int) != 0) = true := by simp [h0]
    rw [decide_eq_false h0]
    cases o1 with
    | false =>
      go_enter Tryz.func89, Tryz.ntmps89
      go_wp2
      go_ret
      exact ⟨by simp, rfl⟩
    | true =>
      go_enter Tryz.func89, Tryz.ntmps89
      go_wp2
      go_ret
      exact ⟨by cases o2 <;> rfl, rfl⟩
set_option maxHeartbeats 4000000 in
theorem sweepSafe_any (b : Nat) (pa : Addr) (c : Nat) (p t r : Int) (G v : Value) (os : List Ob) (rr : List Bool) (w : World) (hb : w.heap[b]? = some (boxH (.slice (some pa) os.length c) p t r G)) (ha : IsArena w (.slice (some pa) os.length c) os) (hv : IsBools w v rr) (hl : os.length = 10) (hr : rr.length = 10) :
    Calls Tryz.prog 70 #[.pointer (some ⟨b, 0, none⟩), v] w fun e w' => e = .returned (.bool (noneTo (sweepB os t rr) 10)) ∧ Below w.heap.size w w' := by
  rw [hl] at hb ha
  have HM : Hid (∀ (k : Nat) w', k < 10 → Below w.heap.size w w' → Calls Tryz.prog 89 #[.pointer (some ⟨b, 0, none⟩), .int .i64 (k : Int), v] w' fun e w'' => e = .returned (.bool (missB os rr k)) ∧ w' = w'') := fun k w' hk hbl => isMissed_any b pa c p t r G v os rr k w' (by have e := keep hb hbl; rw [← hl] at e; exact e) (by rw [hl]; exact ha.on hbl) (hv.on hbl) (by omega) (by omega) (by omega)
  have HA : Hid (∀ (k : Nat) w', k < 10 → Below w.heap.size w w' → ∃ q a1 n1 d1 a2 n2 d2 a3 n3 d3, pa.add (k * 13) = q ∧ ObCells w' q (obAt os k) (.slice a1 n1 d1) (.slice a2 n2 d2) (.slice a3 n3 d3)) := fun k w' hk hbl => ar_sl (ha.on hbl) (by omega)
  have HV : Hid (∀ w', Below w.heap.size w w' → w'.heap[b]? = some (boxH (.slice (some pa) 10 c) p t r G)) := fun w' hbl => keep hb hbl
  obtain ⟨k0, k1, k2, k3, k4⟩ := cells5 hb
  have hbw := lt_of_block hb
  obtain ⟨av, cv, rfl, _, _⟩ := hv
  rw [hr] at HM ⊢
  clear hb ha hl hr
  go_enter Tryz.func70, Tryz.ntmps70
  go_wp2
  clear k0 k1 k2 k3 k4
  go_loopw [12] (fun i wr => ∃ k : Nat, k ≤ 10 ∧ i = .int .i64 k ∧ Hid (noneTo (sweepB os t rr) k = true) ∧ Hid (Below w.heap.size w wr)) (fun i _ => 10 - (intOf i).toNat)
  case atStart => exact ⟨0, Nat.zero_le _, rfl, rfl, Below.refl _ _⟩
  case round =>
    obtain ⟨k, hk, rfl, hd, hnx⟩ := hrel
    by_cases hlt : k < 10
    · obtain ⟨q, e1, n1, d1, e2, n2, d2, e3, n3, d3, hq, hc⟩ := HA.out k wr hlt hnx.out
      obtain ⟨c0, c1, c2, c3, c4, c5, c6, c7, c8, c9, c10, c11, c12⟩ := hc
      obtain ⟨k0, k1, k2, k3, k4⟩ := cells5 (HV.out wr hnx.out)
      have hbl : b < wr.heap.size := lt_of_block (HV.out wr hnx.out)
      have hbn : b ≠ wr.heap.size := Nat.ne_of_lt hbl
      have HS1 : Hid (sweepB os t rr k = true → noneTo (sweepB os t rr) 10 = false) := fun h => noneTo_no hlt h
      have HS2 : Hid (sweepB os t rr k = false → noneTo (sweepB os t rr) (k + 1) = true) := fun h => noneTo_yes hd.out h
      have HSD : Hid (sweepB os t rr k = if (k : Int) < t then (obAt os k).mark else missB os rr k) := rfl
      have HMK := hid_of (HM.out k)
      generalize obAt os k = o at *
      clear hd
      by_cases hkt : (k : Int) < t
      · cases hmk : o.mark with
        | true =>
          rw [hmk] at c9
          have HE : Hid (noneTo (sweepB os t rr) 10 = false) := HS1.out (by rw [HSD.out, if_pos hkt, hmk])
          clear HS1 HS2 HSD HMK hmk
          go_wp2
          go_ret
          exact ⟨by rw [HE.out]; rfl, below_more hnx.out (below_alloc _ _)⟩
        | false =>
          rw [hmk] at c9
          have HE : Hid (noneTo (sweepB os t rr) (k + 1) = true) := HS2.out (by rw [HSD.out, if_pos hkt, hmk])
          clear HS1 HS2 HSD HMK hmk
          go_wp2
          go_roundw
          case rel => exact ⟨k + 1, by omega, by go_num, HE.out, below_more hnx.out (below_alloc _ _)⟩
          case measure => simp [intOf]; omega
      · have hkt2 : t ≤ (k : Int) := by omega
        cases hms : missB os rr k with
        | true =>
          rw [hms] at HMK
          have HE : Hid (noneTo (sweepB os t rr) 10 = false) := HS1.out (by rw [HSD.out, if_neg hkt, hms])
          clear HS1 HS2 HSD hms
          go_wp2_with fail
          refine (HMK.out _ hlt (below_more hnx.out (below_alloc _ _))).mono ?_
          rintro e w1 ⟨rfl, rfl⟩
          go_wp2
          go_ret
          exact ⟨by rw [HE.out]; rfl, below_more hnx.out (below_alloc _ _)⟩
        | false =>
          rw [hms] at HMK
          have HE : Hid (noneTo (sweepB os t rr) (k + 1) = true) := HS2.out (by rw [HSD.out, if_neg hkt, hms])
          clear HS1 HS2 HSD hms
          go_wp2_with fail
          refine (HMK.out _ hlt (below_more hnx.out (below_alloc _ _))).mono ?_
          rintro e w1 ⟨rfl, rfl⟩
          clear HMK
          go_wp2
          go_roundw
          case rel => exact ⟨k + 1, by omega, by go_num, HE.out, below_more hnx.out (below_alloc _ _)⟩
          case measure => simp [intOf]; omega
    · obtain rfl : k = 10 := by omega
      go_wp2
      go_ret
      exact ⟨by rw [hd.out]; rfl, hnx.out⟩
theorem missC_any (b a1 a2 : Nat) (pa : Addr) (c : Nat) (p t r : Int) (G v : Value) (os : List Ob) (rr : List Bool) (i : Nat) (w : World) (hb : w.heap[b]? = some (boxH (.slice (some pa) os.length c) p t r G)) (ha : IsArena w (.slice (some pa) os.length c) os) (hv : IsBools w v rr) (h1 : w.cell? ⟨a1, 0, none⟩ = some (.pointer (some ⟨b, 0, none⟩))) (h2 : w.cell? ⟨a2, 0, none⟩ = some v) (hi : i < os.length) (hr : i < rr.length) (hl : os.length ≤ 1048576) :
    Calls Tryz.prog 88 #[.int .i64 (i : Int), .pointer (some ⟨a1, 0, none⟩), .pointer (some ⟨a2, 0, none⟩)] w fun e w' => e = .returned (.bool (missB os rr i)) ∧ w = w' := by
  have C := isMissed_any b pa c p t r G v os rr i w hb ha hv hi hr hl
  generalize missB os rr i = o at C ⊢
  obtain ⟨av, cv, rfl, _, _⟩ := hv
  clear hb ha hi hr hl
  go_enter Tryz.func88, Tryz.ntmps88
  go_wp2_with fail
  refine C.mono ?_
  rintro e w1 ⟨rfl, rfl⟩
  go_wp2
  go_ret
  exact ⟨rfl, rfl⟩
set_option maxHeartbeats 4000000 in
theorem indexMiss (a1 a2 : Nat) (p0 : Addr) (cap : Nat) (xs : List Int) (P : Int → Bool) (w : World) (hx : IsInts w (.slice (some p0) xs.length cap) xs) (hn : xs.length ≤ 9223372036854775807) (H : ∀ i, i < xs.length → ∀ w', Below w.heap.size w w' → Calls Tryz.prog 88 #[.int .i64 (xs.getD i 0), .pointer (some ⟨a1, 0, none⟩), .pointer (some ⟨a2, 0, none⟩)] w' fun e w'' => e = .returned (.bool (P (xs.getD i 0))) ∧ w' = w'') :
    Calls Tryz.prog 107 #[.slice (some p0) xs.length cap, .func (.func 88) #[] #[.pointer (some ⟨a1, 0, none⟩), .pointer (some ⟨a2, 0, none⟩)]] w fun e w' => (∃ x : Int, e = .returned (.int .i64 x) ∧ decide (0 ≤ x) = xs.any P) ∧ Below w.heap.size w w' := by
  have HX : Hid (∀ wr, Below w.heap.size w wr → IsInts wr (.slice (some p0) xs.length cap) xs) := fun wr hb => hx.on hb
  have HH : Hid (∀ i, i < xs.length → ∀ w', Below w.heap.size w w' → Calls Tryz.prog 88 #[.int .i64 (xs.getD i 0), .pointer (some ⟨a1, 0, none⟩), .pointer (some ⟨a2, 0, none⟩)] w' fun e w'' => e = .returned (.bool (P (xs.getD i 0))) ∧ w' = w'') := H
  have hcap : xs.length ≤ cap := by obtain ⟨_, _, hv, h, _⟩ := hx; cases hv; exact h
  clear hx H
  go_enter Tryz.func107, Tryz.ntmps107
  go_wp2
  go_loopw [8] (fun i wr => ∃ k : Nat, k ≤ xs.length ∧ i = .int .i64 k ∧ Hid (∀ e, e ∈ xs.take k → P e = false) ∧ Below w.heap.size w wr) (fun i _ => xs.length - (intOf i).toNat)
  case atStart => exact ⟨0, Nat.zero_le _, rfl, fun e he => absurd he (by simp), Below.refl _ _⟩
  case round =>
    obtain ⟨k, hk, rfl, hall, hnx⟩ := hrel
    by_cases hlt : k < xs.length
    · obtain ⟨p, hp, hc0⟩ := (HX.out wr hnx).at hlt
      obtain rfl : p0 = p := by simpa using hp
      clear hp
      have C := HH.out k hlt wr hnx
      have hmem : xs.getD k 0 ∈ xs := all_memI hlt
      cases hok : P (xs.getD k 0) with
      | false =>
        rw [hok] at C
        have HA : Hid (∀ e, e ∈ xs.take (k + 1) → P e = false) := fun e he => by
          rw [take_oneI hlt, List.mem_append] at he
          rcases he with h | h
          · exact hall.out e h
          · rw [List.mem_singleton] at h; rw [h]; exact hok
        clear hok hall hmem
        generalize xs.getD k 0 = x at *
        go_wp2_with fail
        refine C.mono ?_
        rintro e w1 ⟨rfl, rfl⟩
        clear C hc0
        go_wp2
        go_roundw
        case rel => exact ⟨k + 1, by omega, by go_num, HA, hnx⟩
        case measure => simp [intOf]; omega
      | true =>
        rw [hok] at C
        have HE2 : Hid (decide (0 ≤ (k : Int)) = xs.any P) := by
          show _ = _
          rw [List.any_eq_true.2 ⟨_, hmem, hok⟩]; simp
        clear hok hall hmem
        generalize xs.getD k 0 = x at *
        go_wp2_with fail
        refine C.mono ?_
        rintro e w1 ⟨rfl, rfl⟩
        clear C hc0
        go_wp2
        go_ret
        exact ⟨⟨_, rfl, HE2.out⟩, hnx⟩
    · obtain rfl : k = xs.length := by omega
      have HE2 : Hid (decide (0 ≤ (-1 : Int)) = xs.any P) := by
        show _ = _
        rw [List.any_eq_false.2 fun e he => by rw [hall.out e (by rw [List.take_length]; exact he)]; simp]; rfl
      clear hall
      go_wp2
      go_ret
      exact ⟨⟨_, rfl, HE2.out⟩, hnx⟩
theorem containsMiss (a1 a2 : Nat) (v : Value) (xs : List Int) (P : Int → Bool) (w : World) (hx : IsInts w v xs) (hn : xs.length ≤ 9223372036854775807) (H : ∀ i, i < xs.length → ∀ w', Below w.heap.size w w' → Calls Tryz.prog 88 #[.int .i64 (xs.getD i 0), .pointer (some ⟨a1, 0, none⟩), .pointer (some ⟨a2, 0, none⟩)] w' fun e w'' => e = .returned (.bool (P (xs.getD i 0))) ∧ w' = w'') :
    Calls Tryz.prog 87 #[v, .func (.func 88) #[] #[.pointer (some ⟨a1, 0, none⟩), .pointer (some ⟨a2, 0, none⟩)]] w fun e w' => e = .returned (.bool (xs.any P)) ∧ Below w.heap.size w w' := by
  have C : Calls Tryz.prog 107 #[v, .func (.func 88) #[] #[.pointer (some ⟨a1, 0, none⟩), .pointer (some ⟨a2, 0, none⟩)]] w fun e w' => (∃ x : Int, e = .returned (.int .i64 x) ∧ decide (0 ≤ x) = xs.any P) ∧ Below w.heap.size w w' := by
    obtain ⟨a, cap, rfl, hcap, _⟩ := id hx
    cases a with
    | some p0 => exact indexMiss a1 a2 p0 cap xs P w hx hn H
    | none =>
      have h0 : xs = [] := by
        obtain ⟨_, _, hv, _, hx⟩ := hx
        cases hv
        cases xs with
        | nil => rfl
        | cons x xs => exact absurd (hx 0 (by simp)) (by simp)
      subst h0
      exact indexNoneI1 _ cap w
  generalize xs.any P = o at C ⊢
  obtain ⟨a, cap, rfl, _, _⟩ := hx
  clear H
  go_enter Tryz.func87, Tryz.ntmps87
  go_wp2_with fail
  refine C.mono ?_
  rintro e w1 ⟨⟨x, rfl, hx⟩, hb⟩
  clear C
  have HX : Hid (decide (0 ≤ x) = o) := hx
  clear hx
  go_wp2
  go_ret
  exact ⟨by rw [← HX.out]; rfl, hb⟩
set_option maxHeartbeats 8000000 in
theorem markSafe_any (b : Nat) (pa : Addr) (c : Nat) (p t r : Int) (G v : Value) (os : List Ob) (xs : List Int) (rr : List Bool) (w : World) (hb : w.heap[b]? = some (boxH (.slice (some pa) os.length c) p t r G)) (ha : IsArena w (.slice (some pa) os.length c) os) (hx : IsInts w G xs) (hv : IsBools w v rr) (hl : os.length = 10) (hr : rr.length = 10) (hs : Small8 os) (hn : xs.length ≤ 1048576) :
    Calls Tryz.prog 67 #[.pointer (some ⟨b, 0, none⟩), v] w fun e w' => e = .returned (.bool (noneTo (darkB os xs rr) 10)) ∧ Below w.heap.size w w' := by
  rw [hl] at hb ha
  obtain ⟨av, cv, rfl, _, _⟩ := id hv
  rw [hr] at hv ⊢
  obtain ⟨W, hW⟩ : ∃ W, W = (w.alloc (.cells #[.pointer (some ⟨b, 0, none⟩)] 65 (0, 0))).alloc (.cells #[.slice av 10 cv] 66 (0, 0)) := ⟨_, rfl⟩
  have hbW : Below w.heap.size w W := by rw [hW]; go_grown
  have h1 : W.heap[w.heap.size]? = some (.cells #[.pointer (some ⟨b, 0, none⟩)] 65 (0, 0)) := by rw [hW]; exact (heap_alloc_old _ _ (by simp)).trans (heap_alloc_new w _)
  have h2 : W.heap[w.heap.size + 1]? = some (.cells #[.slice av 10 cv] 66 (0, 0)) := by rw [hW]; exact heap_alloc_at0 w _ _
  have HB0 : Hid (Below w.heap.size w W) := hbW
  have HV : Hid (∀ w', Below W.heap.size W w' → w'.heap[b]? = some (boxH (.slice (some pa) 10 c) p t r G) ∧ IsArena w' (.slice (some pa) 10 c) os ∧ IsInts w' G xs ∧ IsBools w' (.slice av 10 cv) rr ∧ w'.heap[w.heap.size]? = some (.cells #[.pointer (some ⟨b, 0, none⟩)] 65 (0, 0)) ∧ w'.heap[w.heap.size + 1]? = some (.cells #[.slice av 10 cv] 66 (0, 0))) := fun w' h => ⟨keep (keep hb hbW) h, (ha.on hbW).on h, (hx.on hbW).on h, (hv.on hbW).on h, keep h1 h, keep h2 h⟩
  have HC : Hid (∀ (k : Nat) w', k < 10 → Below W.heap.size W w' → Calls Tryz.prog 72 #[.slice (some pa) 10 c, .int .i64 k] w' fun e w'' => ∃ u, e = .returned u ∧ (∃ a n c', u = .slice a n c') ∧ IsInts w'' u (edgesTo os k 10) ∧ Below w'.heap.size w' w'') := fun k w' hk hbl => (implEdgesOf_any (.slice (some pa) 10 c) os k w' (HV.out w' hbl).2.1 (by omega) (by omega) (by have := hs k; unfold obN at this; omega)).mono fun e w'' h => by
    obtain ⟨u, e1, e2, e3⟩ := h
    rw [hl] at e2
    obtain ⟨a', c'', e4⟩ := owns_len e2
    exact ⟨u, e1, ⟨_, _, _, e4⟩, isInts_own e2, e3⟩
  have HF : Hid (∀ (k : Nat) u w', k < 10 → Below W.heap.size W w' → IsInts w' u (edgesTo os k 10) → Calls Tryz.prog 87 #[u, .func (.func 88) #[] #[.pointer (some ⟨w.heap.size, 0, none⟩), .pointer (some ⟨w.heap.size + 1, 0, none⟩)]] w' fun e w'' => e = .returned (.bool ((edgesTo os k 10).any fun e => missB os rr e.toNat)) ∧ Below w'.heap.size w' w'') := fun k u w' hk hbl hu => by
    refine containsMiss _ _ u (edgesTo os k 10) (fun e => missB os rr e.toNat) w' hu (by have := edgesTo_len os k 10; omega) fun i hi w'' hb2 => ?_
    obtain ⟨m, e1, e2, _⟩ := edges_at hi
    rw [e1, Int.toNat_natCast]
    have hh := HV.out w'' (below_more hbl hb2)
    exact missC_any b _ _ pa c p t r G _ os rr m w'' (by rw [hl]; exact hh.1) (by rw [hl]; exact hh.2.1) hh.2.2.2.1 (cell_one hh.2.2.2.2.1) (cell_one hh.2.2.2.2.2) (by omega) (by omega) (by omega)
  have HN : Hid (xs.length ≤ 9223372036854775807 ∧ rr.length = 10 ∧ os.length = 10) := ⟨by omega, hr, hl⟩
  obtain ⟨k0, k1, k2, k3, k4⟩ := cells5 (HV.out W (Below.refl _ _)).1
  have y0 := cell_one h1
  have hbs : b < w.heap.size := lt_of_block hb
  obtain ⟨ag, cg, rfl, _, _⟩ := id hx
  clear hb ha hx hv hl hr hs hn h1 h2 hbW
  go_enter Tryz.func67, Tryz.ntmps67
  rw [hW] at k0 k1 k2 k3 k4 y0
  go_wp2
  clear k0 k1 k2 k3 k4 y0
  rw [← hW]
  clear hW
  go_loopw [12] (fun i wr => ∃ k : Nat, k ≤ 10 ∧ i = .int .i64 k ∧ Hid (noneTo (darkB os xs rr) k = true) ∧ Hid (Below W.heap.size W wr)) (fun i _ => 10 - (intOf i).toNat)
  case atStart => exact ⟨0, Nat.zero_le _, rfl, rfl, Below.refl _ _⟩
  case round =>
    obtain ⟨k, hk, rfl, hd, hnx⟩ := hrel
    by_cases hlt : k < 10
    · have HH := hid_of (HV.out wr hnx.out)
      obtain ⟨q, e1, n1, d1, e2, n2, d2, e3, n3, d3, hq, hc⟩ := ar_sl HH.out.2.1 (k := k) (by have h := HN.out; omega)
      obtain ⟨pv, rfl, hrc⟩ : ∃ pv, av = some pv ∧ wr.cell? (pv.add k) = some (.bool (gAt rr k)) := by
        obtain ⟨pv, cv', hsl, hrc⟩ := bools_at HH.out.2.2.2.1 (i := k) (by have h := HN.out; omega)
        have e := (Value.slice.inj hsl).1
        exact ⟨pv, e, hrc⟩
      have hrc : ∀ X, (wr.alloc X).cell? (pv.add k) = some (.bool (gAt rr k)) := fun X => ((below_alloc wr X).cell (World.block_lt_of_cell? wr _ hrc)).trans hrc
      have hcl := cell_one HH.out.2.2.2.2.1
      have hcl2 := cell_one HH.out.2.2.2.2.2
      obtain ⟨c0, c1, c2, c3, c4, c5, c6, c7, c8, c9, c10, c11, c12⟩ := hc
      obtain ⟨k0, k1, k2, k3, k4⟩ := cells5 HH.out.1
      have hbl : b < wr.heap.size := lt_of_block HH.out.1
      have hbn : b ≠ wr.heap.size := Nat.ne_of_lt hbl
      have hal : w.heap.size < wr.heap.size := lt_of_block HH.out.2.2.2.2.1
      have han : w.heap.size ≠ wr.heap.size := Nat.ne_of_lt hal
      have hal1 : w.heap.size + 1 < wr.heap.size := lt_of_block HH.out.2.2.2.2.2
      have han1 : w.heap.size + 1 ≠ wr.heap.size := Nat.ne_of_lt hal1
      have HS1 : Hid (darkB os xs rr k = true → noneTo (darkB os xs rr) 10 = false) := fun h => noneTo_no hlt h
      have HS2 : Hid (darkB os xs rr k = false → noneTo (darkB os xs rr) (k + 1) = true) := fun h => noneTo_yes hd.out h
      have HSD : Hid (darkB os xs rr k = (gAt rr k && ((decide (k = 0) || (obAt os k).mark) && (!(hasI xs (k : Int)) && (edgesTo os k 10).any fun e => missB os rr e.toNat)))) := rfl
      have HCT : Hid (∀ w', Below wr.heap.size wr w' → Calls Tryz.prog 58 #[.slice ag xs.length cg, .int .i64 (k : Int)] w' fun e w'' => e = .returned (.bool (hasI xs (k : Int))) ∧ w' = w'') := fun w' hb => contains_any _ xs (k : Int) w' (HH.out.2.2.1.on hb) HN.out.1
      have HCK := hid_of (HC.out k)
      have HFK := hid_of (HF.out k)
      generalize ((edgesTo os k 10).any fun e => missB os rr e.toNat) = oE at HSD HFK
      generalize obAt os k = o at *
      clear hd
      cases hgt : gAt rr k with
      | false =>
        simp only [hgt] at hrc
        have HE : Hid (noneTo (darkB os xs rr) (k + 1) = true) := HS2.out (by rw [HSD.out]; simp [hgt])
        clear HS1 HS2 HSD
        clear HCK HFK HCT hgt
        go_wp2
        go_roundw
        case rel => exact ⟨k + 1, by omega, by go_num, HE.out, below_more hnx.out (below_alloc _ _)⟩
        case measure => simp [intOf]; omega
      | true =>
        simp only [hgt] at hrc
        cases hmk : o.mark with
        | true =>
          rw [hmk] at c9
          cases hg : hasI xs (k : Int) with
          | true =>
            rw [hg] at HCT
            have HE : Hid (noneTo (darkB os xs rr) (k + 1) = true) := HS2.out (by rw [HSD.out]; simp [hgt, hmk, hg])
            clear HS1 HS2 HSD
            clear HCK HFK hg
            go_wp2_with fail
            refine (HCT.out _ (below_alloc _ _)).mono ?_
            rintro e w1 ⟨rfl, rfl⟩
            clear HCT
            go_wp2
            go_roundw
            case rel => exact ⟨k + 1, by omega, by go_num, HE.out, below_more hnx.out (below_alloc _ _)⟩
            case measure => simp [intOf]; omega
          | false =>
            rw [hg] at HCT
            cases oE with
            | true =>
              have HE : Hid (noneTo (darkB os xs rr) 10 = false) := HS1.out (by rw [HSD.out]; simp [hgt, hmk, hg])
              clear HS1 HS2 HSD
              clear hg
              go_wp2_with fail
              refine (HCT.out _ (below_alloc _ _)).mono ?_
              rintro e w1 ⟨rfl, rfl⟩
              clear HCT
              go_wp2_with fail
              refine (HCK.out _ hlt (below_more hnx.out (below_alloc _ _))).mono ?_
              rintro e w2 ⟨u, rfl, ⟨a2, n2, c2', rfl⟩, hu, hb2⟩
              have HB2 := hid_of (below_more (below_more hnx.out (below_alloc _ _)) hb2)
              have HU := hid_of hu
              clear hb2 hu HCK
              go_wp2_with fail
              refine (HFK.out _ _ hlt HB2.out HU.out).mono ?_
              rintro e w3 ⟨rfl, hb3⟩
              have HB3 := hid_of (below_more HB2.out hb3)
              clear hb3 HB2 HU HFK
              go_wp2
              go_ret
              exact ⟨by rw [HE.out]; rfl, below_more HB0.out HB3.out⟩
            | false =>
              have HE : Hid (noneTo (darkB os xs rr) (k + 1) = true) := HS2.out (by rw [HSD.out]; simp [hgt, hmk, hg])
              clear HS1 HS2 HSD
              clear hg
              go_wp2_with fail
              refine (HCT.out _ (below_alloc _ _)).mono ?_
              rintro e w1 ⟨rfl, rfl⟩
              clear HCT
              go_wp2_with fail
              refine (HCK.out _ hlt (below_more hnx.out (below_alloc _ _))).mono ?_
              rintro e w2 ⟨u, rfl, ⟨a2, n2, c2', rfl⟩, hu, hb2⟩
              have HB2 := hid_of (below_more (below_more hnx.out (below_alloc _ _)) hb2)
              have HU := hid_of hu
              clear hb2 hu HCK
              go_wp2_with fail
              refine (HFK.out _ _ hlt HB2.out HU.out).mono ?_
              rintro e w3 ⟨rfl, hb3⟩
              have HB3 := hid_of (below_more HB2.out hb3)
              clear hb3 HB2 HU HFK
              go_wp2
              go_roundw
              case rel => exact ⟨k + 1, by omega, by go_num, HE.out, HB3.out⟩
              case measure => simp [intOf]; omega
        | false =>
          rw [hmk] at c9
          by_cases h0 : k = 0
          · have n0 : ((k : Int) != 0) = false := by simp [h0]
            have HSD := hid_of (show darkB os xs rr k = (gAt rr k && ((true || o.mark) && (!(hasI xs (k : Int)) && oE))) from by have e := HSD.out; rw [decide_eq_true h0] at e; exact e)
            clear h0
            cases hg : hasI xs (k : Int) with
            | true =>
              rw [hg] at HCT
              have HE : Hid (noneTo (darkB os xs rr) (k + 1) = true) := HS2.out (by rw [HSD.out]; simp [hgt, hmk, hg])
              clear HS1 HS2 HSD
              clear HCK HFK hg
              go_wp2_with fail
              refine (HCT.out _ (below_alloc _ _)).mono ?_
              rintro e w1 ⟨rfl, rfl⟩
              clear HCT
              go_wp2
              go_roundw
              case rel => exact ⟨k + 1, by omega, by go_num, HE.out, below_more hnx.out (below_alloc _ _)⟩
              case measure => simp [intOf]; omega
            | false =>
              rw [hg] at HCT
              cases oE with
              | true =>
                have HE : Hid (noneTo (darkB os xs rr) 10 = false) := HS1.out (by rw [HSD.out]; simp [hgt, hmk, hg])
                clear HS1 HS2 HSD
                clear hg
                go_wp2_with fail
                refine (HCT.out _ (below_alloc _ _)).mono ?_
                rintro e w1 ⟨rfl, rfl⟩
                clear HCT
                go_wp2_with fail
                refine (HCK.out _ hlt (below_more hnx.out (below_alloc _ _))).mono ?_
                rintro e w2 ⟨u, rfl, ⟨a2, n2, c2', rfl⟩, hu, hb2⟩
                have HB2 := hid_of (below_more (below_more hnx.out (below_alloc _ _)) hb2)
                have HU := hid_of hu
                clear hb2 hu HCK
                go_wp2_with fail
                refine (HFK.out _ _ hlt HB2.out HU.out).mono ?_
                rintro e w3 ⟨rfl, hb3⟩
                have HB3 := hid_of (below_more HB2.out hb3)
                clear hb3 HB2 HU HFK
                go_wp2
                go_ret
                exact ⟨by rw [HE.out]; rfl, below_more HB0.out HB3.out⟩
              | false =>
                have HE : Hid (noneTo (darkB os xs rr) (k + 1) = true) := HS2.out (by rw [HSD.out]; simp [hgt, hmk, hg])
                clear HS1 HS2 HSD
                clear hg
                go_wp2_with fail
                refine (HCT.out _ (below_alloc _ _)).mono ?_
                rintro e w1 ⟨rfl, rfl⟩
                clear HCT
                go_wp2_with fail
                refine (HCK.out _ hlt (below_more hnx.out (below_alloc _ _))).mono ?_
                rintro e w2 ⟨u, rfl, ⟨a2, n2, c2', rfl⟩, hu, hb2⟩
                have HB2 := hid_of (below_more (below_more hnx.out (below_alloc _ _)) hb2)
                have HU := hid_of hu
                clear hb2 hu HCK
                go_wp2_with fail
                refine (HFK.out _ _ hlt HB2.out HU.out).mono ?_
                rintro e w3 ⟨rfl, hb3⟩
                have HB3 := hid_of (below_more HB2.out hb3)
                clear hb3 HB2 HU HFK
                go_wp2
                go_roundw
                case rel => exact ⟨k + 1, by omega, by go_num, HE.out, HB3.out⟩
                case measure => simp [intOf]; omega
          · have n0 : ((k : Int) != 0) = true := by simp [h0]
            have HE : Hid (noneTo (darkB os xs rr) (k + 1) = true) := HS2.out (by rw [HSD.out]; simp [hgt, hmk, h0])
            clear HS1 HS2 HSD
            clear HCK HFK HCT
            go_wp2
            go_roundw
            case rel => exact ⟨k + 1, by omega, by go_num, HE.out, below_more hnx.out (below_alloc _ _)⟩
            case measure => simp [intOf]; omega
    · obtain rfl : k = 10 := by omega
      go_wp2
      go_ret
      exact ⟨by rw [hd.out]; rfl, below_more HB0.out hnx.out⟩
end Go.Proofs.YtbdljoldblpffaaGreat
namespace Go.Proofs.YtbdljoldblpffaaGreat
open Go.RowKit
set_option linter.unusedVariables false
set_option maxRecDepth 100000

theorem heapOk_ten {os : List Ob} {p t r : Int} {xs : List Int} (h : heapOk os p t r xs = true) : os.length = 10 := by
  unfold heapOk at h
  simp only [Bool.and_eq_true] at h
  have h1 := h.1
  unfold arenaOk at h1
  simp only [Bool.and_eq_true, decide_eq_true_eq] at h1
  exact h1.1
theorem reached_len10 (os : List Ob) (now : Int) : (reached (ledB os now)).length = 10 := (reached_right ledB_lt).len
def gNine (P : Value → World → Prop) (vs : List Value) (j : Nat) (u : Value) (w : World) : Prop := (j = 9 → P u w) ∧ (j ≠ 9 → u = vs.getD j undef)
theorem gNine_on {P : Value → World → Prop} {w w' : World} (hP : ∀ u, P u w → P u w') (vs : List Value) : ∀ j u, gNine P vs j u w → gNine P vs j u w' := fun j u h => ⟨fun e => hP u (h.1 e), h.2⟩
def IsB (rr : List Bool) (u : Value) (w : World) : Prop := (∃ a n c, u = .slice a n c) ∧ IsBools w u rr
theorem isB_ans {rr : List Bool} {w : World} {e : Ending} {w' : World} (h : BoolsAns rr w e w') : ∃ u, e = .returned u ∧ IsB rr u w' ∧ Below w.heap.size w w' := by
  obtain ⟨a, n, c, he, hn, hc, hx, hb⟩ := h
  refine ⟨_, he, ⟨⟨_, _, _, rfl⟩, ?_⟩, hb⟩
  by_cases h0 : n = 0
  · subst h0
    have : rr = [] := List.length_eq_zero_iff.1 hn.symm
    subst this
    exact ⟨a, c, rfl, Nat.zero_le _, fun i hi => absurd hi (by simp)⟩
  · obtain ⟨g, rfl, _, hb2⟩ := hx h0
    exact hb2.bools n c hn hc
structure SafeS (w : World) (A : Value) (p t r : Int) (G : Value) (wz : World) : Prop where
  base : Below w.heap.size w wz
  box : wz.heap[w.heap.size]? = some (boxH A p t r G)
theorem SafeS.on {w : World} {A : Value} {p t r : Int} {G : Value} {wz w' : World} (h : SafeS w A p t r G wz) (hb : Below wz.heap.size wz w') : SafeS w A p t r G w' := ⟨below_more h.base hb, keep h.box hb⟩
set_option maxHeartbeats 8000000 in
theorem iSafe_mark (pa : Addr) (c : Nat) (t r : Int) (G : Value) (os : List Ob) (xs : List Int) (now : Int) (w : World) (ha : IsArena w (.slice (some pa) os.length c) os) (hx : IsInts w G xs) (hl : os.length ≤ 1048576) (hs : Small8 os) (hn : xs.length ≤ 1048576) (h1 : heapOk os 0 t r xs = true) :
    Calls Tryz.prog 19 #[hpV (.slice (some pa) os.length c) 0 t r G, .int .i64 now] w fun e w' => e = .returned (.bool (noneTo (darkB os xs (reached (ledB os now))) 10)) ∧ Below w.heap.size w w' := by
  have hten := heapOk_ten h1
  have CO : Hid (∀ w', Below w.heap.size w w' → Calls Tryz.prog 29 #[hpV (.slice (some pa) os.length c) 0 t r G] w' fun e w'' => e = .returned (.bool (heapOk os 0 t r xs)) ∧ Below w'.heap.size w' w'') := fun w' hb => implHeapOk_any _ 0 t r _ os xs w' (ha.on hb) (hx.on hb) hl hs hn
  rw [h1] at CO
  rw [hten] at CO ha ⊢
  obtain ⟨rr, hrr⟩ : ∃ rr, rr = reached (ledB os now) := ⟨_, rfl⟩
  have hrl : rr.length = 10 := by rw [hrr]; exact reached_len10 os now
  have CR : Hid (∀ w', Below w.heap.size w w' → Calls Tryz.prog 45 #[.slice (some pa) 10 c, .int .i64 now] w' fun e w'' => ∃ u, e = .returned u ∧ IsB rr u w'' ∧ Below w'.heap.size w' w'') := fun w' hb => (implReachOf_any pa c os now w' (ha.on hb) hten (fun i => by have := hs i; unfold obN at this; omega)).mono fun e w'' h => by rw [hrr]; exact isB_ans h
  rw [← hrr]
  have CM : Hid (∀ v w', Below w.heap.size w w' → w'.heap[w.heap.size]? = some (boxH (.slice (some pa) 10 c) 0 t r G) → IsBools w' v rr → Calls Tryz.prog 67 #[.pointer (some ⟨w.heap.size, 0, none⟩), v] w' fun e w'' => e = .returned (.bool (noneTo (darkB os xs rr) 10)) ∧ Below w'.heap.size w' w'') := fun v w' hb h2 h3 => markSafe_any w.heap.size pa c 0 t r G v os xs rr w' (by rw [hten]; exact h2) (by rw [hten]; exact ha.on hb) (hx.on hb) h3 hten hrl hs hn
  generalize noneTo (darkB os xs rr) 10 = o at CM ⊢
  have CP := fun w (a : Option Addr) (n c : Nat) (u : Option Addr) (m d : Nat) => phaseOf_mark a n c t r u m d w
  have hfd := fdMark2
  obtain ⟨ag, cg, rfl, _, _⟩ := id hx
  have HS : Hid (SafeS w (.slice (some pa) 10 c) 0 t r (.slice ag xs.length cg) (w.alloc (boxH (.slice (some pa) 10 c) 0 t r (.slice ag xs.length cg)))) := ⟨below_alloc w _, heap_alloc_new w _⟩
  clear ha hx hl hs hn h1 hten hrr hrl
  go_enter Tryz.func19, Tryz.ntmps19
  go_wp2_with fail
  refine wp_region_whole (by kernel_rfl) (by kernel_rfl) (by kernel_rfl) (by kernel_rfl) (Flat (SafeS w (.slice (some pa) 10 c) 0 t r (.slice ag xs.length cg)) (gNine (IsB rr) [hpV (.slice (some pa) 10 c) 0 t r (.slice ag xs.length cg), .bool true, .bool true, hpV (.slice (some pa) 10 c) 0 t r (.slice ag xs.length cg), .agg #[.func (.func 65) #[] #[], .func (.func 66) #[] #[], .func (.func 67) #[] #[]], .func (.func 67) #[] #[], .pointer (some ⟨w.heap.size, 0, none⟩), .slice (some pa) 10 c, .int .i64 now, undef, .bool o, .bool o, .bool o])) (flat_start (HS.out.on (below_draw _))) ?_ ?_
  · refine ⟨?_, ?_, ?_, ?_, ?_, ?_, ?_, ?_, ?_, ?_, ?_, ?_, ?_, trivial⟩
    · intro b0 us wz L hslot hoth hLi hR hcl hdo K hK
      have s2 : b0.tmps.getD 2 undef = .pointer (some ⟨w.heap.size, 0, none⟩) := hoth 2 (by rfl)
      obtain ⟨k0, k1, k2, k3, k4⟩ := cells5 hR.1.box
      clear hslot hoth hdo hcl hLi
      refine guard_none (by rfl) ?_
      go_simp
      exact hK _ _ (flat_mark (hR.1) (fun _ _ h => h) hR.2 ⟨fun h => absurd h (by decide), fun _ => rfl⟩)
    · intro b0 us wz L hslot hoth hLi hR hcl hdo K hK
      have s5 : b0.tmps.getD 5 undef = hpV (.slice (some pa) 10 c) 0 t r (.slice ag xs.length cg) := (hslot 0 5 (by rfl)).trans ((hR.2 0 (done_at hdo 0 (by rfl))).2 (by decide))
      clear hslot hoth hdo hcl hLi
      refine guard_none (by rfl) ?_
      go_simp
      refine (CO.out _ hR.1.base).mono ?_
      rintro e w' ⟨rfl, hb⟩
      exact hK _ _ (flat_mark (hR.1.on hb) (gNine_on (fun _ h => ⟨h.1, h.2.on hb⟩) _) hR.2 ⟨fun h => absurd h (by decide), fun _ => rfl⟩)
    · intro b0 us wz L hslot hoth hLi hR hcl hdo K hK
      have s6 : b0.tmps.getD 6 undef = .bool true := (hslot 1 6 (by rfl)).trans ((hR.2 1 (done_at hdo 1 (by rfl))).2 (by decide))
      clear hslot hoth hdo hcl hLi
      refine guard_none (by rfl) ?_
      go_simp
      exact hK _ _ (flat_mark (hR.1) (fun _ _ h => h) hR.2 ⟨fun h => absurd h (by decide), fun _ => rfl⟩)
    · intro b0 us wz L hslot hoth hLi hR hcl hdo K hK
      have gg : us 2 = .bool true := (hR.2 2 (done_at hdo 2 (by rfl))).2 (by decide)
      have s2 : b0.tmps.getD 2 undef = .pointer (some ⟨w.heap.size, 0, none⟩) := hoth 2 (by rfl)
      obtain ⟨k0, k1, k2, k3, k4⟩ := cells5 hR.1.box
      clear hslot hoth hdo hcl hLi
      refine guard_on (j := 2) (want := true) (d := 7) (by rfl) (by rfl) gg ?_
      go_simp
      exact hK _ _ (flat_mark (hR.1) (fun _ _ h => h) hR.2 ⟨fun h => absurd h (by decide), fun _ => rfl⟩)
    · intro b0 us wz L hslot hoth hLi hR hcl hdo K hK
      have gg : us 2 = .bool true := (hR.2 2 (done_at hdo 2 (by rfl))).2 (by decide)
      have s8 : b0.tmps.getD 8 undef = hpV (.slice (some pa) 10 c) 0 t r (.slice ag xs.length cg) := (hslot 3 8 (by rfl)).trans ((hR.2 3 (done_at hdo 3 (by rfl))).2 (by decide))
      clear hslot hoth hdo hcl hLi
      refine guard_on (j := 2) (want := true) (d := 7) (by rfl) (by rfl) gg ?_
      go_simp
      refine (CP _ _ _ _ _ _ _).mono ?_
      rintro e w' ⟨rfl, hb⟩
      exact hK _ _ (flat_mark (hR.1.on hb) (gNine_on (fun _ h => ⟨h.1, h.2.on hb⟩) _) hR.2 ⟨fun h => absurd h (by decide), fun _ => rfl⟩)
    · intro b0 us wz L hslot hoth hLi hR hcl hdo K hK
      have gg : us 2 = .bool true := (hR.2 2 (done_at hdo 2 (by rfl))).2 (by decide)
      have s9 : b0.tmps.getD 9 undef = .agg #[.func (.func 65) #[] #[], .func (.func 66) #[] #[], .func (.func 67) #[] #[]] := (hslot 4 9 (by rfl)).trans ((hR.2 4 (done_at hdo 4 (by rfl))).2 (by decide))
      clear hslot hoth hdo hcl hLi
      refine guard_on (j := 2) (want := true) (d := 7) (by rfl) (by rfl) gg ?_
      go_simp
      exact hK _ _ (flat_mark (hR.1) (fun _ _ h => h) hR.2 ⟨fun h => absurd h (by decide), fun _ => rfl⟩)
    · intro b0 us wz L hslot hoth hLi hR hcl hdo K hK
      have gg : us 2 = .bool true := (hR.2 2 (done_at hdo 2 (by rfl))).2 (by decide)
      have s2 : b0.tmps.getD 2 undef = .pointer (some ⟨w.heap.size, 0, none⟩) := hoth 2 (by rfl)
      clear hslot hoth hdo hcl hLi
      refine guard_on (j := 2) (want := true) (d := 7) (by rfl) (by rfl) gg ?_
      go_simp
      exact hK _ _ (flat_mark (hR.1) (fun _ _ h => h) hR.2 ⟨fun h => absurd h (by decide), fun _ => rfl⟩)
    · intro b0 us wz L hslot hoth hLi hR hcl hdo K hK
      have gg : us 2 = .bool true := (hR.2 2 (done_at hdo 2 (by rfl))).2 (by decide)
      have s11 : b0.tmps.getD 11 undef = .pointer (some ⟨w.heap.size, 0, none⟩) := (hslot 6 11 (by rfl)).trans ((hR.2 6 (done_at hdo 6 (by rfl))).2 (by decide))
      obtain ⟨k0, k1, k2, k3, k4⟩ := cells5 hR.1.box
      clear hslot hoth hdo hcl hLi
      refine guard_on (j := 2) (want := true) (d := 7) (by rfl) (by rfl) gg ?_
      go_simp
      exact hK _ _ (flat_mark (hR.1) (fun _ _ h => h) hR.2 ⟨fun h => absurd h (by decide), fun _ => rfl⟩)
    · intro b0 us wz L hslot hoth hLi hR hcl hdo K hK
      have gg : us 2 = .bool true := (hR.2 2 (done_at hdo 2 (by rfl))).2 (by decide)
      have s1 : b0.tmps.getD 1 undef = .int .i64 now := hoth 1 (by rfl)
      clear hslot hoth hdo hcl hLi
      refine guard_on (j := 2) (want := true) (d := 7) (by rfl) (by rfl) gg ?_
      go_simp
      exact hK _ _ (flat_mark (hR.1) (fun _ _ h => h) hR.2 ⟨fun h => absurd h (by decide), fun _ => rfl⟩)
    · intro b0 us wz L hslot hoth hLi hR hcl hdo K hK
      have gg : us 2 = .bool true := (hR.2 2 (done_at hdo 2 (by rfl))).2 (by decide)
      have s12 : b0.tmps.getD 12 undef = .slice (some pa) 10 c := (hslot 7 12 (by rfl)).trans ((hR.2 7 (done_at hdo 7 (by rfl))).2 (by decide))
      have s13 : b0.tmps.getD 13 undef = .int .i64 now := (hslot 8 13 (by rfl)).trans ((hR.2 8 (done_at hdo 8 (by rfl))).2 (by decide))
      clear hslot hoth hdo hcl hLi
      refine guard_on (j := 2) (want := true) (d := 7) (by rfl) (by rfl) gg ?_
      go_simp
      refine (CR.out _ hR.1.base).mono ?_
      rintro e w' ⟨u, rfl, hu, hb⟩
      exact hK _ _ (flat_mark (hR.1.on hb) (gNine_on (fun _ h => ⟨h.1, h.2.on hb⟩) _) hR.2 ⟨fun _ => hu, fun h => absurd rfl h⟩)
    · intro b0 us wz L hslot hoth hLi hR hcl hdo K hK
      have gg : us 2 = .bool true := (hR.2 2 (done_at hdo 2 (by rfl))).2 (by decide)
      have s10 : b0.tmps.getD 10 undef = .func (.func 67) #[] #[] := (hslot 5 10 (by rfl)).trans ((hR.2 5 (done_at hdo 5 (by rfl))).2 (by decide))
      have s2 : b0.tmps.getD 2 undef = .pointer (some ⟨w.heap.size, 0, none⟩) := hoth 2 (by rfl)
      obtain ⟨⟨a9, n9, c9, hu9⟩, hi9⟩ := (hR.2 9 (done_at hdo 9 (by rfl))).1 rfl
      rw [hu9] at hi9
      have s14 : b0.tmps.getD 14 undef = .slice a9 n9 c9 := (hslot 9 14 (by rfl)).trans hu9
      clear hslot hoth hdo hcl hLi
      refine guard_on (j := 2) (want := true) (d := 7) (by rfl) (by rfl) gg ?_
      go_simp
      refine (CM.out _ _ hR.1.base hR.1.box hi9).mono ?_
      rintro e w' ⟨rfl, hb⟩
      exact hK _ _ (flat_mark (hR.1.on hb) (gNine_on (fun _ h => ⟨h.1, h.2.on hb⟩) _) hR.2 ⟨fun h => absurd h (by decide), fun _ => rfl⟩)
    · intro b0 us wz L hslot hoth hLi hR hcl hdo K hK
      have s7 : b0.tmps.getD 7 undef = .bool true := (hslot 2 7 (by rfl)).trans ((hR.2 2 (done_at hdo 2 (by rfl))).2 (by decide))
      have s15 : b0.tmps.getD 15 undef = .bool o := (hslot 10 15 (by rfl)).trans ((hR.2 10 (done_at hdo 10 (by rfl))).2 (by decide))
      clear hslot hoth hdo hcl hLi
      refine guard_none (by rfl) ?_
      go_simp
      exact hK _ _ (flat_mark (hR.1) (fun _ _ h => h) hR.2 ⟨fun h => absurd h (by decide), fun _ => rfl⟩)
    · intro b0 us wz L hslot hoth hLi hR hcl hdo K hK
      have s16 : b0.tmps.getD 16 undef = .bool o := (hslot 11 16 (by rfl)).trans ((hR.2 11 (done_at hdo 11 (by rfl))).2 (by decide))
      clear hslot hoth hdo hcl hLi
      refine guard_none (by rfl) ?_
      go_simp
      exact hK _ _ (flat_mark (hR.1) (fun _ _ h => h) hR.2 ⟨fun h => absurd h (by decide), fun _ => rfl⟩)
  · intro us wn L hall hR a' ha'
    have g0 : us 0 = hpV (.slice (some pa) 10 c) 0 t r (.slice ag xs.length cg) := (hR.2 0 (hall 0 (by decide))).2 (by decide)
    have g1 : us 1 = .bool true := (hR.2 1 (hall 1 (by decide))).2 (by decide)
    have g2 : us 2 = .bool true := (hR.2 2 (hall 2 (by decide))).2 (by decide)
    have g3 : us 3 = hpV (.slice (some pa) 10 c) 0 t r (.slice ag xs.length cg) := (hR.2 3 (hall 3 (by decide))).2 (by decide)
    have g4 : us 4 = .agg #[.func (.func 65) #[] #[], .func (.func 66) #[] #[], .func (.func 67) #[] #[]] := (hR.2 4 (hall 4 (by decide))).2 (by decide)
    have g5 : us 5 = .func (.func 67) #[] #[] := (hR.2 5 (hall 5 (by decide))).2 (by decide)
    have g6 : us 6 = .pointer (some ⟨w.heap.size, 0, none⟩) := (hR.2 6 (hall 6 (by decide))).2 (by decide)
    have g7 : us 7 = .slice (some pa) 10 c := (hR.2 7 (hall 7 (by decide))).2 (by decide)
    have g8 : us 8 = .int .i64 now := (hR.2 8 (hall 8 (by decide))).2 (by decide)
    obtain ⟨y9, g9⟩ : ∃ x, us 9 = x := ⟨_, rfl⟩
    have g10 : us 10 = .bool o := (hR.2 10 (hall 10 (by decide))).2 (by decide)
    have g11 : us 11 = .bool o := (hR.2 11 (hall 11 (by decide))).2 (by decide)
    have g12 : us 12 = .bool o := (hR.2 12 (hall 12 (by decide))).2 (by decide)
    have HB := hid_of hR.1
    clear hR hall
    simp only [putAll, g0, g1, g2, g3, g4, g5, g6, g7, g8, g9, g10, g11, g12] at ha'
    subst ha'
    go_frame
    go_wp2
    go_ret
    exact ⟨rfl, HB.out.base⟩
set_option maxHeartbeats 8000000 in
theorem iSafe_sweep (pa : Addr) (c : Nat) (t r : Int) (G : Value) (os : List Ob) (xs : List Int) (now : Int) (w : World) (ha : IsArena w (.slice (some pa) os.length c) os) (hx : IsInts w G xs) (hl : os.length ≤ 1048576) (hs : Small8 os) (hn : xs.length ≤ 1048576) (h1 : heapOk os 1 t r xs = true) :
    Calls Tryz.prog 19 #[hpV (.slice (some pa) os.length c) 1 t r G, .int .i64 now] w fun e w' => e = .returned (.bool (noneTo (sweepB os t (reached (ledB os now))) 10)) ∧ Below w.heap.size w w' := by
  have hten := heapOk_ten h1
  have CO : Hid (∀ w', Below w.heap.size w w' → Calls Tryz.prog 29 #[hpV (.slice (some pa) os.length c) 1 t r G] w' fun e w'' => e = .returned (.bool (heapOk os 1 t r xs)) ∧ Below w'.heap.size w' w'') := fun w' hb => implHeapOk_any _ 1 t r _ os xs w' (ha.on hb) (hx.on hb) hl hs hn
  rw [h1] at CO
  rw [hten] at CO ha ⊢
  obtain ⟨rr, hrr⟩ : ∃ rr, rr = reached (ledB os now) := ⟨_, rfl⟩
  have hrl : rr.length = 10 := by rw [hrr]; exact reached_len10 os now
  have CR : Hid (∀ w', Below w.heap.size w w' → Calls Tryz.prog 45 #[.slice (some pa) 10 c, .int .i64 now] w' fun e w'' => ∃ u, e = .returned u ∧ IsB rr u w'' ∧ Below w'.heap.size w' w'') := fun w' hb => (implReachOf_any pa c os now w' (ha.on hb) hten (fun i => by have := hs i; unfold obN at this; omega)).mono fun e w'' h => by rw [hrr]; exact isB_ans h
  rw [← hrr]
  have CM : Hid (∀ v w', Below w.heap.size w w' → w'.heap[w.heap.size]? = some (boxH (.slice (some pa) 10 c) 1 t r G) → IsBools w' v rr → Calls Tryz.prog 70 #[.pointer (some ⟨w.heap.size, 0, none⟩), v] w' fun e w'' => e = .returned (.bool (noneTo (sweepB os t rr) 10)) ∧ Below w'.heap.size w' w'') := fun v w' hb h2 h3 => sweepSafe_any w.heap.size pa c 1 t r G v os rr w' (by rw [hten]; exact h2) (by rw [hten]; exact ha.on hb) h3 hten hrl
  generalize noneTo (sweepB os t rr) 10 = o at CM ⊢
  have CP := fun w (a : Option Addr) (n c : Nat) (u : Option Addr) (m d : Nat) => phaseOf_sweep a n c t r u m d w
  have hfd := fdSweep2
  obtain ⟨ag, cg, rfl, _, _⟩ := id hx
  have HS : Hid (SafeS w (.slice (some pa) 10 c) 1 t r (.slice ag xs.length cg) (w.alloc (boxH (.slice (some pa) 10 c) 1 t r (.slice ag xs.length cg)))) := ⟨below_alloc w _, heap_alloc_new w _⟩
  clear ha hx hl hs hn h1 hten hrr hrl
  go_enter Tryz.func19, Tryz.ntmps19
  go_wp2_with fail
  refine wp_region_whole (by kernel_rfl) (by kernel_rfl) (by kernel_rfl) (by kernel_rfl) (Flat (SafeS w (.slice (some pa) 10 c) 1 t r (.slice ag xs.length cg)) (gNine (IsB rr) [hpV (.slice (some pa) 10 c) 1 t r (.slice ag xs.length cg), .bool true, .bool true, hpV (.slice (some pa) 10 c) 1 t r (.slice ag xs.length cg), .agg #[.func (.func 68) #[] #[], .func (.func 69) #[] #[], .func (.func 70) #[] #[]], .func (.func 70) #[] #[], .pointer (some ⟨w.heap.size, 0, none⟩), .slice (some pa) 10 c, .int .i64 now, undef, .bool o, .bool o, .bool o])) (flat_start (HS.out.on (below_draw _))) ?_ ?_
  · refine ⟨?_, ?_, ?_, ?_, ?_, ?_, ?_, ?_, ?_, ?_, ?_, ?_, ?_, trivial⟩
    · intro b0 us wz L hslot hoth hLi hR hcl hdo K hK
      have s2 : b0.tmps.getD 2 undef = .pointer (some ⟨w.heap.size, 0, none⟩) := hoth 2 (by rfl)
      obtain ⟨k0, k1, k2, k3, k4⟩ := cells5 hR.1.box
      clear hslot hoth hdo hcl hLi
      refine guard_none (by rfl) ?_
      go_simp
      exact hK _ _ (flat_mark (hR.1) (fun _ _ h => h) hR.2 ⟨fun h => absurd h (by decide), fun _ => rfl⟩)
    · intro b0 us wz L hslot hoth hLi hR hcl hdo K hK
      have s5 : b0.tmps.getD 5 undef = hpV (.slice (some pa) 10 c) 1 t r (.slice ag xs.length cg) := (hslot 0 5 (by rfl)).trans ((hR.2 0 (done_at hdo 0 (by rfl))).2 (by decide))
      clear hslot hoth hdo hcl hLi
      refine guard_none (by rfl) ?_
      go_simp
      refine (CO.out _ hR.1.base).mono ?_
      rintro e w' ⟨rfl, hb⟩
      exact hK _ _ (flat_mark (hR.1.on hb) (gNine_on (fun _ h => ⟨h.1, h.2.on hb⟩) _) hR.2 ⟨fun h => absurd h (by decide), fun _ => rfl⟩)
    · intro b0 us wz L hslot hoth hLi hR hcl hdo K hK
      have s6 : b0.tmps.getD 6 undef = .bool true := (hslot 1 6 (by rfl)).trans ((hR.2 1 (done_at hdo 1 (by rfl))).2 (by decide))
      clear hslot hoth hdo hcl hLi
      refine guard_none (by rfl) ?_
      go_simp
      exact hK _ _ (flat_mark (hR.1) (fun _ _ h => h) hR.2 ⟨fun h => absurd h (by decide), fun _ => rfl⟩)
    · intro b0 us wz L hslot hoth hLi hR hcl hdo K hK
      have gg : us 2 = .bool true := (hR.2 2 (done_at hdo 2 (by rfl))).2 (by decide)
      have s2 : b0.tmps.getD 2 undef = .pointer (some ⟨w.heap.size, 0, none⟩) := hoth 2 (by rfl)
      obtain ⟨k0, k1, k2, k3, k4⟩ := cells5 hR.1.box
      clear hslot hoth hdo hcl hLi
      refine guard_on (j := 2) (want := true) (d := 7) (by rfl) (by rfl) gg ?_
      go_simp
      exact hK _ _ (flat_mark (hR.1) (fun _ _ h => h) hR.2 ⟨fun h => absurd h (by decide), fun _ => rfl⟩)
    · intro b0 us wz L hslot hoth hLi hR hcl hdo K hK
      have gg : us 2 = .bool true := (hR.2 2 (done_at hdo 2 (by rfl))).2 (by decide)
      have s8 : b0.tmps.getD 8 undef = hpV (.slice (some pa) 10 c) 1 t r (.slice ag xs.length cg) := (hslot 3 8 (by rfl)).trans ((hR.2 3 (done_at hdo 3 (by rfl))).2 (by decide))
      clear hslot hoth hdo hcl hLi
      refine guard_on (j := 2) (want := true) (d := 7) (by rfl) (by rfl) gg ?_
      go_simp
      refine (CP _ _ _ _ _ _ _).mono ?_
      rintro e w' ⟨rfl, hb⟩
      exact hK _ _ (flat_mark (hR.1.on hb) (gNine_on (fun _ h => ⟨h.1, h.2.on hb⟩) _) hR.2 ⟨fun h => absurd h (by decide), fun _ => rfl⟩)
    · intro b0 us wz L hslot hoth hLi hR hcl hdo K hK
      have gg : us 2 = .bool true := (hR.2 2 (done_at hdo 2 (by rfl))).2 (by decide)
      have s9 : b0.tmps.getD 9 undef = .agg #[.func (.func 68) #[] #[], .func (.func 69) #[] #[], .func (.func 70) #[] #[]] := (hslot 4 9 (by rfl)).trans ((hR.2 4 (done_at hdo 4 (by rfl))).2 (by decide))
      clear hslot hoth hdo hcl hLi
      refine guard_on (j := 2) (want := true) (d := 7) (by rfl) (by rfl) gg ?_
      go_simp
      exact hK _ _ (flat_mark (hR.1) (fun _ _ h => h) hR.2 ⟨fun h => absurd h (by decide), fun _ => rfl⟩)
    · intro b0 us wz L hslot hoth hLi hR hcl hdo K hK
      have gg : us 2 = .bool true := (hR.2 2 (done_at hdo 2 (by rfl))).2 (by decide)
      have s2 : b0.tmps.getD 2 undef = .pointer (some ⟨w.heap.size, 0, none⟩) := hoth 2 (by rfl)
      clear hslot hoth hdo hcl hLi
      refine guard_on (j := 2) (want := true) (d := 7) (by rfl) (by rfl) gg ?_
      go_simp
      exact hK _ _ (flat_mark (hR.1) (fun _ _ h => h) hR.2 ⟨fun h => absurd h (by decide), fun _ => rfl⟩)
    · intro b0 us wz L hslot hoth hLi hR hcl hdo K hK
      have gg : us 2 = .bool true := (hR.2 2 (done_at hdo 2 (by rfl))).2 (by decide)
      have s11 : b0.tmps.getD 11 undef = .pointer (some ⟨w.heap.size, 0, none⟩) := (hslot 6 11 (by rfl)).trans ((hR.2 6 (done_at hdo 6 (by rfl))).2 (by decide))
      obtain ⟨k0, k1, k2, k3, k4⟩ := cells5 hR.1.box
      clear hslot hoth hdo hcl hLi
      refine guard_on (j := 2) (want := true) (d := 7) (by rfl) (by rfl) gg ?_
      go_simp
      exact hK _ _ (flat_mark (hR.1) (fun _ _ h => h) hR.2 ⟨fun h => absurd h (by decide), fun _ => rfl⟩)
    · intro b0 us wz L hslot hoth hLi hR hcl hdo K hK
      have gg : us 2 = .bool true := (hR.2 2 (done_at hdo 2 (by rfl))).2 (by decide)
      have s1 : b0.tmps.getD 1 undef = .int .i64 now := hoth 1 (by rfl)
      clear hslot hoth hdo hcl hLi
      refine guard_on (j := 2) (want := true) (d := 7) (by rfl) (by rfl) gg ?_
      go_simp
      exact hK _ _ (flat_mark (hR.1) (fun _ _ h => h) hR.2 ⟨fun h => absurd h (by decide), fun _ => rfl⟩)
    · intro b0 us wz L hslot hoth hLi hR hcl hdo K hK
      have gg : us 2 = .bool true := (hR.2 2 (done_at hdo 2 (by rfl))).2 (by decide)
      have s12 : b0.tmps.getD 12 undef = .slice (some pa) 10 c := (hslot 7 12 (by rfl)).trans ((hR.2 7 (done_at hdo 7 (by rfl))).2 (by decide))
      have s13 : b0.tmps.getD 13 undef = .int .i64 now := (hslot 8 13 (by rfl)).trans ((hR.2 8 (done_at hdo 8 (by rfl))).2 (by decide))
      clear hslot hoth hdo hcl hLi
      refine guard_on (j := 2) (want := true) (d := 7) (by rfl) (by rfl) gg ?_
      go_simp
      refine (CR.out _ hR.1.base).mono ?_
      rintro e w' ⟨u, rfl, hu, hb⟩
      exact hK _ _ (flat_mark (hR.1.on hb) (gNine_on (fun _ h => ⟨h.1, h.2.on hb⟩) _) hR.2 ⟨fun _ => hu, fun h => absurd rfl h⟩)
    · intro b0 us wz L hslot hoth hLi hR hcl hdo K hK
      have gg : us 2 = .bool true := (hR.2 2 (done_at hdo 2 (by rfl))).2 (by decide)
      have s10 : b0.tmps.getD 10 undef = .func (.func 70) #[] #[] := (hslot 5 10 (by rfl)).trans ((hR.2 5 (done_at hdo 5 (by rfl))).2 (by decide))
      have s2 : b0.tmps.getD 2 undef = .pointer (some ⟨w.heap.size, 0, none⟩) := hoth 2 (by rfl)
      obtain ⟨⟨a9, n9, c9, hu9⟩, hi9⟩ := (hR.2 9 (done_at hdo 9 (by rfl))).1 rfl
      rw [hu9] at hi9
      have s14 : b0.tmps.getD 14 undef = .slice a9 n9 c9 := (hslot 9 14 (by rfl)).trans hu9
      clear hslot hoth hdo hcl hLi
      refine guard_on (j := 2) (want := true) (d := 7) (by rfl) (by rfl) gg ?_
      go_simp
      refine (CM.out _ _ hR.1.base hR.1.box hi9).mono ?_
      rintro e w' ⟨rfl, hb⟩
      exact hK _ _ (flat_mark (hR.1.on hb) (gNine_on (fun _ h => ⟨h.1, h.2.on hb⟩) _) hR.2 ⟨fun h => absurd h (by decide), fun _ => rfl⟩)
    · intro b0 us wz L hslot hoth hLi hR hcl hdo K hK
      have s7 : b0.tmps.getD 7 undef = .bool true := (hslot 2 7 (by rfl)).trans ((hR.2 2 (done_at hdo 2 (by rfl))).2 (by decide))
      have s15 : b0.tmps.getD 15 undef = .bool o := (hslot 10 15 (by rfl)).trans ((hR.2 10 (done_at hdo 10 (by rfl))).2 (by decide))
      clear hslot hoth hdo hcl hLi
      refine guard_none (by rfl) ?_
      go_simp
      exact hK _ _ (flat_mark (hR.1) (fun _ _ h => h) hR.2 ⟨fun h => absurd h (by decide), fun _ => rfl⟩)
    · intro b0 us wz L hslot hoth hLi hR hcl hdo K hK
      have s16 : b0.tmps.getD 16 undef = .bool o := (hslot 11 16 (by rfl)).trans ((hR.2 11 (done_at hdo 11 (by rfl))).2 (by decide))
      clear hslot hoth hdo hcl hLi
      refine guard_none (by rfl) ?_
      go_simp
      exact hK _ _ (flat_mark (hR.1) (fun _ _ h => h) hR.2 ⟨fun h => absurd h (by decide), fun _ => rfl⟩)
  · intro us wn L hall hR a' ha'
    have g0 : us 0 = hpV (.slice (some pa) 10 c) 1 t r (.slice ag xs.length cg) := (hR.2 0 (hall 0 (by decide))).2 (by decide)
    have g1 : us 1 = .bool true := (hR.2 1 (hall 1 (by decide))).2 (by decide)
    have g2 : us 2 = .bool true := (hR.2 2 (hall 2 (by decide))).2 (by decide)
    have g3 : us 3 = hpV (.slice (some pa) 10 c) 1 t r (.slice ag xs.length cg) := (hR.2 3 (hall 3 (by decide))).2 (by decide)
    have g4 : us 4 = .agg #[.func (.func 68) #[] #[], .func (.func 69) #[] #[], .func (.func 70) #[] #[]] := (hR.2 4 (hall 4 (by decide))).2 (by decide)
    have g5 : us 5 = .func (.func 70) #[] #[] := (hR.2 5 (hall 5 (by decide))).2 (by decide)
    have g6 : us 6 = .pointer (some ⟨w.heap.size, 0, none⟩) := (hR.2 6 (hall 6 (by decide))).2 (by decide)
    have g7 : us 7 = .slice (some pa) 10 c := (hR.2 7 (hall 7 (by decide))).2 (by decide)
    have g8 : us 8 = .int .i64 now := (hR.2 8 (hall 8 (by decide))).2 (by decide)
    obtain ⟨y9, g9⟩ : ∃ x, us 9 = x := ⟨_, rfl⟩
    have g10 : us 10 = .bool o := (hR.2 10 (hall 10 (by decide))).2 (by decide)
    have g11 : us 11 = .bool o := (hR.2 11 (hall 11 (by decide))).2 (by decide)
    have g12 : us 12 = .bool o := (hR.2 12 (hall 12 (by decide))).2 (by decide)
    have HB := hid_of hR.1
    clear hR hall
    simp only [putAll, g0, g1, g2, g3, g4, g5, g6, g7, g8, g9, g10, g11, g12] at ha'
    subst ha'
    go_frame
    go_wp2
    go_ret
    exact ⟨rfl, HB.out.base⟩
set_option maxHeartbeats 8000000 in
theorem iSafe_no (pa : Addr) (c : Nat) (p t r : Int) (G : Value) (os : List Ob) (xs : List Int) (now : Int) (w : World) (ha : IsArena w (.slice (some pa) os.length c) os) (hx : IsInts w G xs) (hl : os.length ≤ 1048576) (hs : Small8 os) (hn : xs.length ≤ 1048576) (h1 : heapOk os p t r xs = false) :
    Calls Tryz.prog 19 #[hpV (.slice (some pa) os.length c) p t r G, .int .i64 now] w fun e w' => e = .returned (.bool false) ∧ Below w.heap.size w w' := by
  have CO : Hid (∀ w', Below w.heap.size w w' → Calls Tryz.prog 29 #[hpV (.slice (some pa) os.length c) p t r G] w' fun e w'' => e = .returned (.bool (heapOk os p t r xs)) ∧ Below w'.heap.size w' w'') := fun w' hb => implHeapOk_any _ p t r _ os xs w' (ha.on hb) (hx.on hb) hl hs hn
  rw [h1] at CO
  obtain ⟨ag, cg, rfl, _, _⟩ := id hx
  have HS : Hid (SafeS w (.slice (some pa) os.length c) p t r (.slice ag xs.length cg) (w.alloc (boxH (.slice (some pa) os.length c) p t r (.slice ag xs.length cg)))) := ⟨below_alloc w _, heap_alloc_new w _⟩
  clear ha hx hl hs hn h1
  go_enter Tryz.func19, Tryz.ntmps19
  go_wp2_with fail
  refine wp_region_whole (by kernel_rfl) (by kernel_rfl) (by kernel_rfl) (by kernel_rfl) (Flat (SafeS w (.slice (some pa) os.length c) p t r (.slice ag xs.length cg)) (gNine (fun _ _ => True) [hpV (.slice (some pa) os.length c) p t r (.slice ag xs.length cg), .bool false, .bool false, undef, undef, undef, undef, undef, undef, undef, undef, .bool false, .bool false])) (flat_start (HS.out.on (below_draw _))) ?_ ?_
  · refine ⟨?_, ?_, ?_, ?_, ?_, ?_, ?_, ?_, ?_, ?_, ?_, ?_, ?_, trivial⟩
    · intro b0 us wz L hslot hoth hLi hR hcl hdo K hK
      have s2 : b0.tmps.getD 2 undef = .pointer (some ⟨w.heap.size, 0, none⟩) := hoth 2 (by rfl)
      obtain ⟨k0, k1, k2, k3, k4⟩ := cells5 hR.1.box
      clear hslot hoth hdo hcl hLi
      refine guard_none (by rfl) ?_
      go_simp
      exact hK _ _ (flat_mark (hR.1) (fun _ _ h => h) hR.2 ⟨fun h => absurd h (by decide), fun _ => rfl⟩)
    · intro b0 us wz L hslot hoth hLi hR hcl hdo K hK
      have s5 : b0.tmps.getD 5 undef = hpV (.slice (some pa) os.length c) p t r (.slice ag xs.length cg) := (hslot 0 5 (by rfl)).trans ((hR.2 0 (done_at hdo 0 (by rfl))).2 (by decide))
      clear hslot hoth hdo hcl hLi
      refine guard_none (by rfl) ?_
      go_simp
      refine (CO.out _ hR.1.base).mono ?_
      rintro e w' ⟨rfl, hb⟩
      exact hK _ _ (flat_mark (hR.1.on hb) (gNine_on (fun _ h => h) _) hR.2 ⟨fun h => absurd h (by decide), fun _ => rfl⟩)
    · intro b0 us wz L hslot hoth hLi hR hcl hdo K hK
      have s6 : b0.tmps.getD 6 undef = .bool false := (hslot 1 6 (by rfl)).trans ((hR.2 1 (done_at hdo 1 (by rfl))).2 (by decide))
      clear hslot hoth hdo hcl hLi
      refine guard_none (by rfl) ?_
      go_simp
      exact hK _ _ (flat_mark (hR.1) (fun _ _ h => h) hR.2 ⟨fun h => absurd h (by decide), fun _ => rfl⟩)
    · intro b0 us wz L hslot hoth hLi hR hcl hdo K hK
      have gg : us 2 = .bool false := (hR.2 2 (done_at hdo 2 (by rfl))).2 (by decide)
      refine guard_off (j := 2) (want := true) (d := 7) (by rfl) (by rfl) gg (by rfl) ?_
      exact hK undef _ (flat_mark (hR.1) (fun _ _ h => h) hR.2 ⟨fun h => absurd h (by decide), fun _ => rfl⟩)
    · intro b0 us wz L hslot hoth hLi hR hcl hdo K hK
      have gg : us 2 = .bool false := (hR.2 2 (done_at hdo 2 (by rfl))).2 (by decide)
      refine guard_off (j := 2) (want := true) (d := 7) (by rfl) (by rfl) gg (by rfl) ?_
      exact hK undef _ (flat_mark (hR.1) (fun _ _ h => h) hR.2 ⟨fun h => absurd h (by decide), fun _ => rfl⟩)
    · intro b0 us wz L hslot hoth hLi hR hcl hdo K hK
      have gg : us 2 = .bool false := (hR.2 2 (done_at hdo 2 (by rfl))).2 (by decide)
      refine guard_off (j := 2) (want := true) (d := 7) (by rfl) (by rfl) gg (by rfl) ?_
      exact hK undef _ (flat_mark (hR.1) (fun _ _ h => h) hR.2 ⟨fun h => absurd h (by decide), fun _ => rfl⟩)
    · intro b0 us wz L hslot hoth hLi hR hcl hdo K hK
      have gg : us 2 = .bool false := (hR.2 2 (done_at hdo 2 (by rfl))).2 (by decide)
      refine guard_off (j := 2) (want := true) (d := 7) (by rfl) (by rfl) gg (by rfl) ?_
      exact hK undef _ (flat_mark (hR.1) (fun _ _ h => h) hR.2 ⟨fun h => absurd h (by decide), fun _ => rfl⟩)
    · intro b0 us wz L hslot hoth hLi hR hcl hdo K hK
      have gg : us 2 = .bool false := (hR.2 2 (done_at hdo 2 (by rfl))).2 (by decide)
      refine guard_off (j := 2) (want := true) (d := 7) (by rfl) (by rfl) gg (by rfl) ?_
      exact hK undef _ (flat_mark (hR.1) (fun _ _ h => h) hR.2 ⟨fun h => absurd h (by decide), fun _ => rfl⟩)
    · intro b0 us wz L hslot hoth hLi hR hcl hdo K hK
      have gg : us 2 = .bool false := (hR.2 2 (done_at hdo 2 (by rfl))).2 (by decide)
      refine guard_off (j := 2) (want := true) (d := 7) (by rfl) (by rfl) gg (by rfl) ?_
      exact hK undef _ (flat_mark (hR.1) (fun _ _ h => h) hR.2 ⟨fun h => absurd h (by decide), fun _ => rfl⟩)
    · intro b0 us wz L hslot hoth hLi hR hcl hdo K hK
      have gg : us 2 = .bool false := (hR.2 2 (done_at hdo 2 (by rfl))).2 (by decide)
      refine guard_off (j := 2) (want := true) (d := 7) (by rfl) (by rfl) gg (by rfl) ?_
      exact hK undef _ (flat_mark (hR.1) (fun _ _ h => h) hR.2 ⟨fun _ => trivial, fun h => absurd rfl h⟩)
    · intro b0 us wz L hslot hoth hLi hR hcl hdo K hK
      have gg : us 2 = .bool false := (hR.2 2 (done_at hdo 2 (by rfl))).2 (by decide)
      refine guard_off (j := 2) (want := true) (d := 7) (by rfl) (by rfl) gg (by rfl) ?_
      exact hK undef _ (flat_mark (hR.1) (fun _ _ h => h) hR.2 ⟨fun h => absurd h (by decide), fun _ => rfl⟩)
    · intro b0 us wz L hslot hoth hLi hR hcl hdo K hK
      have s7 : b0.tmps.getD 7 undef = .bool false := (hslot 2 7 (by rfl)).trans ((hR.2 2 (done_at hdo 2 (by rfl))).2 (by decide))
      have s15 : b0.tmps.getD 15 undef = undef := (hslot 10 15 (by rfl)).trans ((hR.2 10 (done_at hdo 10 (by rfl))).2 (by decide))
      clear hslot hoth hdo hcl hLi
      refine guard_none (by rfl) ?_
      go_simp
      exact hK _ _ (flat_mark (hR.1) (fun _ _ h => h) hR.2 ⟨fun h => absurd h (by decide), fun _ => rfl⟩)
    · intro b0 us wz L hslot hoth hLi hR hcl hdo K hK
      have s16 : b0.tmps.getD 16 undef = .bool false := (hslot 11 16 (by rfl)).trans ((hR.2 11 (done_at hdo 11 (by rfl))).2 (by decide))
      clear hslot hoth hdo hcl hLi
      refine guard_none (by rfl) ?_
      go_simp
      exact hK _ _ (flat_mark (hR.1) (fun _ _ h => h) hR.2 ⟨fun h => absurd h (by decide), fun _ => rfl⟩)
  · intro us wn L hall hR a' ha'
    have g0 : us 0 = hpV (.slice (some pa) os.length c) p t r (.slice ag xs.length cg) := (hR.2 0 (hall 0 (by decide))).2 (by decide)
    have g1 : us 1 = .bool false := (hR.2 1 (hall 1 (by decide))).2 (by decide)
    have g2 : us 2 = .bool false := (hR.2 2 (hall 2 (by decide))).2 (by decide)
    have g3 : us 3 = undef := (hR.2 3 (hall 3 (by decide))).2 (by decide)
    have g4 : us 4 = undef := (hR.2 4 (hall 4 (by decide))).2 (by decide)
    have g5 : us 5 = undef := (hR.2 5 (hall 5 (by decide))).2 (by decide)
    have g6 : us 6 = undef := (hR.2 6 (hall 6 (by decide))).2 (by decide)
    have g7 : us 7 = undef := (hR.2 7 (hall 7 (by decide))).2 (by decide)
    have g8 : us 8 = undef := (hR.2 8 (hall 8 (by decide))).2 (by decide)
    obtain ⟨y9, g9⟩ : ∃ x, us 9 = x := ⟨_, rfl⟩
    have g10 : us 10 = undef := (hR.2 10 (hall 10 (by decide))).2 (by decide)
    have g11 : us 11 = .bool false := (hR.2 11 (hall 11 (by decide))).2 (by decide)
    have g12 : us 12 = .bool false := (hR.2 12 (hall 12 (by decide))).2 (by decide)
    have HB := hid_of hR.1
    clear hR hall
    simp only [putAll, g0, g1, g2, g3, g4, g5, g6, g7, g8, g9, g10, g11, g12] at ha'
    subst ha'
    go_frame
    go_wp2
    go_ret
    exact ⟨rfl, HB.out.base⟩
theorem implSafe_any (pa : Addr) (c : Nat) (p t r : Int) (G : Value) (os : List Ob) (xs : List Int) (now : Int) (w : World) (ha : IsArena w (.slice (some pa) os.length c) os) (hx : IsInts w G xs) (hl : os.length ≤ 1048576) (hs : Small8 os) (hn : xs.length ≤ 1048576) :
    Calls Tryz.prog 19 #[hpV (.slice (some pa) os.length c) p t r G, .int .i64 now] w fun e w' => e = .returned (.bool (safeOk os p t r xs now)) ∧ Below w.heap.size w w' := by
  unfold safeOk
  cases h1 : heapOk os p t r xs with
  | false => exact iSafe_no pa c p t r G os xs now w ha hx hl hs hn h1
  | true =>
    by_cases hp : p = 0
    · rw [if_pos hp]
      subst hp
      exact iSafe_mark pa c t r G os xs now w ha hx hl hs hn h1
    · rw [if_neg hp]
      obtain rfl : p = 1 := by
        have h2 := h1
        unfold heapOk at h2
        simp only [Bool.and_eq_true] at h2
        have := inB_true h2.2.1
        omega
      exact iSafe_sweep pa c t r G os xs now w ha hx hl hs hn h1
end Go.Proofs.YtbdljoldblpffaaGreat
namespace Go.Proofs.YtbdljoldblpffaaGreat
open Go.RowKit
set_option linter.unusedVariables false
set_option maxRecDepth 100000

theorem heapOk_arena {os : List Ob} {p t r : Int} {xs : List Int} (h : heapOk os p t r xs = true) : arenaOk os = true := by
  unfold heapOk at h
  simp only [Bool.and_eq_true] at h
  exact h.1
set_option maxHeartbeats 8000000 in
theorem sSafe_no (pa : Addr) (c : Nat) (p t r : Int) (ag : Option Addr) (cg : Nat) (os : List Ob) (xs : List Int) (now : Int) (w : World) (ha : IsArena w (.slice (some pa) os.length c) os) (hx : IsInts w (.slice ag xs.length cg) xs) (hl : os.length ≤ 1048576) (hs : Small8 os) (hf : AllFit os) (hn : xs.length ≤ 1048576) (h1 : heapOk os p t r xs = false) :
    Calls Tryz.prog 18 #[hpV (.slice (some pa) os.length c) p t r (.slice ag xs.length cg), .int .i64 now] w fun e w' => e = .returned (.bool false) ∧ Below w.heap.size w w' := by
  have CO : Hid (∀ w', Below w.heap.size w w' → Calls Tryz.prog 23 #[hpV (.slice (some pa) os.length c) p t r (.slice ag xs.length cg)] w' fun e w'' => e = .returned (.bool (heapOk os p t r xs)) ∧ Below w'.heap.size w' w'') := fun w' hb => specHeapOk_any _ p t r _ os xs w' (ha.on hb) (hx.on hb) hl hs hf hn
  rw [h1] at CO
  clear ha hx hl hs hf hn h1
  go_enter Tryz.func18, Tryz.ntmps18
  go_wp2_with fail
  refine (CO.out _ (by go_grown)).mono ?_
  rintro e w1 ⟨rfl, hb⟩
  have HB : Hid (Below w.heap.size w w1) := below_more (by go_grown) hb
  clear hb CO
  go_wp2
  go_ret
  exact ⟨rfl, HB.out⟩
set_option maxHeartbeats 8000000 in
theorem sSafe_sweep (pa : Addr) (c : Nat) (p t r : Int) (ag : Option Addr) (cg : Nat) (os : List Ob) (xs : List Int) (now : Int) (w : World) (ha : IsArena w (.slice (some pa) os.length c) os) (hx : IsInts w (.slice ag xs.length cg) xs) (hl : os.length ≤ 1048576) (hs : Small8 os) (hf : AllFit os) (hn : xs.length ≤ 1048576) (h0 : p = 1) (h1 : heapOk os p t r xs = true) :
    Calls Tryz.prog 18 #[hpV (.slice (some pa) os.length c) p t r (.slice ag xs.length cg), .int .i64 now] w fun e w' => e = .returned (.bool (noneTo (sweepB os t (reached (ledB os now))) 10)) ∧ Below w.heap.size w w' := by
  have CO : Hid (∀ w', Below w.heap.size w w' → Calls Tryz.prog 23 #[hpV (.slice (some pa) os.length c) p t r (.slice ag xs.length cg)] w' fun e w'' => e = .returned (.bool (heapOk os p t r xs)) ∧ Below w'.heap.size w' w'') := fun w' hb => specHeapOk_any _ p t r _ os xs w' (ha.on hb) (hx.on hb) hl hs hf hn
  rw [h1] at CO
  have hten := heapOk_ten h1
  have hok := heapOk_arena h1
  rw [hten] at CO ha ⊢
  obtain ⟨rr, hrr⟩ : ∃ rr, rr = reached (ledB os now) := ⟨_, rfl⟩
  have hrl : rr.length = 10 := by rw [hrr]; exact reached_len10 os now
  have CR : Hid (∀ w', Below w.heap.size w w' → Calls Tryz.prog 42 #[.slice (some pa) 10 c, .int .i64 now] w' fun e w'' => ∃ u, e = .returned u ∧ IsB rr u w'' ∧ Below w'.heap.size w' w'') := fun w' hb => (specReach_any _ os now w' (ha.on hb) (by omega) hs hf).mono fun e w'' h => by
    have e2 : reachAns os now = rr := by unfold reachAns; rw [hok, hrr]; rfl
    rw [e2] at h
    exact isB_ans h
  rw [← hrr]
  have HV0 : Hid ((w.alloc (boxH (.slice (some pa) 10 c) p t r (.slice ag xs.length cg))).heap[w.heap.size]? = some (boxH (.slice (some pa) 10 c) p t r (.slice ag xs.length cg))) := heap_alloc_new w _
  have HN : Hid (xs.length ≤ 9223372036854775807 ∧ rr.length = 10 ∧ os.length = 10) := ⟨by omega, hrl, hten⟩
  have HAX : Hid (∀ w', Below w.heap.size w w' → IsArena w' (.slice (some pa) 10 c) os ∧ IsInts w' (.slice ag xs.length cg) xs) := fun w' hb => ⟨ha.on hb, hx.on hb⟩
  have hcap : 10 ≤ c := by obtain ⟨_, _, hv, hc, _⟩ := id ha; have e := (Value.slice.inj hv).2.2; omega
  subst h0
  clear ha hx hl hs hf hn h1 hten hok hrr hrl
  go_enter Tryz.func18, Tryz.ntmps18
  go_wp2_with fail
  refine (CO.out _ (by go_grown)).mono ?_
  rintro e w1 ⟨rfl, hb⟩
  have HB1 : Hid (Below w.heap.size w w1) := below_more (by go_grown) hb
  have HV1 := hid_of (keep HV0.out hb)
  obtain ⟨k0, k1, k2, k3, k4⟩ := cells5 HV1.out
  clear hb CO HV0
  go_wp2_with fail
  refine (CR.out _ HB1.out).mono ?_
  rintro e w2 ⟨u, rfl, hu, hb⟩
  obtain ⟨av, nv, cv, rfl⟩ := hu.1
  have HB2 := hid_of (below_more HB1.out hb)
  have HV2 : Hid (∀ w', Below w2.heap.size w2 w' → w'.heap[w.heap.size]? = some (boxH (.slice (some pa) 10 c) 1 t r (.slice ag xs.length cg)) ∧ IsArena w' (.slice (some pa) 10 c) os ∧ IsInts w' (.slice ag xs.length cg) xs ∧ IsBools w' (.slice av nv cv) rr) := fun w' h => ⟨keep (keep HV1.out hb) h, (HAX.out _ (below_more HB2.out h)).1, (HAX.out _ (below_more HB2.out h)).2, hu.2.on h⟩
  obtain rfl : nv = 10 := by
    obtain ⟨_, _, hv, _, _⟩ := hu.2
    have e := (Value.slice.inj hv).2.1
    have h := HN.out
    omega
  clear hb hu CR HV1 k0 k1 k2 k3 k4 HB1
  obtain ⟨k0, k1, k2, k3, k4⟩ := cells5 (HV2.out w2 (Below.refl _ _)).1
  go_wp2
  clear k0 k1 k2 k3 k4
  go_loopw [6] (fun i wr => ∃ k : Nat, k ≤ 10 ∧ i = .int .i64 k ∧ Hid (noneTo (sweepB os t rr) k = true) ∧ Hid (Below w2.heap.size w2 wr)) (fun i _ => 10 - (intOf i).toNat)
  case atStart => exact ⟨0, Nat.zero_le _, rfl, rfl, Below.refl _ _⟩
  case round =>
    obtain ⟨k, hk, rfl, hd, hnx⟩ := hrel
    by_cases hlt : k < 10
    · have HH := hid_of (HV2.out wr hnx.out)
      obtain ⟨q, l, d, m, hq, hc⟩ := ar_at HH.out.2.1 (k := k) (by have h := HN.out; omega)
      obtain ⟨pv, rfl, hrc⟩ : ∃ pv, av = some pv ∧ wr.cell? (pv.add k) = some (.bool (gAt rr k)) := by
        obtain ⟨pv, cv', hsl, hrc⟩ := bools_at HH.out.2.2.2 (i := k) (by have h := HN.out; omega)
        have e := (Value.slice.inj hsl).1
        exact ⟨pv, e, hrc⟩
      have c9 := hc.c9
      obtain ⟨k0, k1, k2, k3, k4⟩ := cells5 HH.out.1
      have HS1 : Hid (sweepB os t rr k = true → noneTo (sweepB os t rr) 10 = false) := fun h => noneTo_no hlt h
      have HS2 : Hid (sweepB os t rr k = false → noneTo (sweepB os t rr) (k + 1) = true) := fun h => noneTo_yes hd.out h
      have HSD : Hid (sweepB os t rr k = if (k : Int) < t then (obAt os k).mark else (!(decide (k = 0)) && (gAt rr k && !(obAt os k).mark))) := rfl
      generalize obAt os k = o at *
      generalize gAt rr k = og at *
      clear hd hc
      by_cases hkt : (k : Int) < t
      · cases hmk : o.mark with
        | true =>
          rw [hmk] at c9
          have HE : Hid (noneTo (sweepB os t rr) 10 = false) := HS1.out (by rw [HSD.out]; rw [if_pos hkt, hmk])
          clear HS1 HS2 HSD hmk
          go_wp2
          go_ret
          exact ⟨by rw [HE.out]; rfl, below_more HB2.out hnx.out⟩
        | false =>
          rw [hmk] at c9
          have HE : Hid (noneTo (sweepB os t rr) (k + 1) = true) := HS2.out (by rw [HSD.out]; rw [if_pos hkt, hmk])
          clear HS1 HS2 HSD hmk
          go_wp2
          go_roundw
          case rel => exact ⟨k + 1, by omega, by go_num, HE.out, hnx⟩
          case measure => simp [intOf]; omega
      · have hkt2 : t ≤ (k : Int) := by omega
        by_cases h0 : k = 0
        · have n0 : decide ((k : Int) > 0) = false := by simp; omega
          have n1 : decide ((0 : Int) < (k : Int)) = false := by simp; omega
          have n2 : decide (0 < k) = false := by simp; omega
          have HE : Hid (noneTo (sweepB os t rr) (k + 1) = true) := HS2.out (by rw [HSD.out]; rw [if_neg hkt, decide_eq_true h0]; rfl)
          clear HS1 HS2 HSD h0
          go_wp2
          go_roundw
          case rel => exact ⟨k + 1, by omega, by go_num, HE.out, hnx⟩
          case measure => simp [intOf]; omega
        · have n0 : decide ((k : Int) > 0) = true := by simp; omega
          have n1 : decide ((0 : Int) < (k : Int)) = true := by simp; omega
          have n2 : decide (0 < k) = true := by simp; omega
          cases og with
          | false =>
            have HE : Hid (noneTo (sweepB os t rr) (k + 1) = true) := HS2.out (by rw [HSD.out]; rw [if_neg hkt, decide_eq_false h0]; rfl)
            clear HS1 HS2 HSD h0
            go_wp2
            go_roundw
            case rel => exact ⟨k + 1, by omega, by go_num, HE.out, hnx⟩
            case measure => simp [intOf]; omega
          | true =>
            cases hmk : o.mark with
            | true =>
              rw [hmk] at c9
              have HE : Hid (noneTo (sweepB os t rr) (k + 1) = true) := HS2.out (by rw [HSD.out]; rw [if_neg hkt, decide_eq_false h0, hmk]; rfl)
              clear HS1 HS2 HSD h0 hmk
              go_wp2
              go_roundw
              case rel => exact ⟨k + 1, by omega, by go_num, HE.out, hnx⟩
              case measure => simp [intOf]; omega
            | false =>
              rw [hmk] at c9
              have HE : Hid (noneTo (sweepB os t rr) 10 = false) := HS1.out (by rw [HSD.out]; rw [if_neg hkt, decide_eq_false h0, hmk]; rfl)
              clear HS1 HS2 HSD h0 hmk
              go_wp2
              go_ret
              exact ⟨by rw [HE.out]; rfl, below_more HB2.out hnx.out⟩
    · obtain rfl : k = 10 := by omega
      go_wp2
      go_ret
      exact ⟨by rw [hd.out]; rfl, below_more HB2.out hnx.out⟩
set_option maxHeartbeats 8000000 in
theorem sSafe_mark (pa : Addr) (c : Nat) (p t r : Int) (ag : Option Addr) (cg : Nat) (os : List Ob) (xs : List Int) (now : Int) (w : World) (ha : IsArena w (.slice (some pa) os.length c) os) (hx : IsInts w (.slice ag xs.length cg) xs) (hl : os.length ≤ 1048576) (hs : Small8 os) (hf : AllFit os) (hn : xs.length ≤ 1048576) (h0 : p = 0) (h1 : heapOk os p t r xs = true) :
    Calls Tryz.prog 18 #[hpV (.slice (some pa) os.length c) p t r (.slice ag xs.length cg), .int .i64 now] w fun e w' => e = .returned (.bool (noneTo (darkB os xs (reached (ledB os now))) 10)) ∧ Below w.heap.size w w' := by
  have CO : Hid (∀ w', Below w.heap.size w w' → Calls Tryz.prog 23 #[hpV (.slice (some pa) os.length c) p t r (.slice ag xs.length cg)] w' fun e w'' => e = .returned (.bool (heapOk os p t r xs)) ∧ Below w'.heap.size w' w'') := fun w' hb => specHeapOk_any _ p t r _ os xs w' (ha.on hb) (hx.on hb) hl hs hf hn
  rw [h1] at CO
  have hten := heapOk_ten h1
  have hok := heapOk_arena h1
  rw [hten] at CO ha ⊢
  obtain ⟨rr, hrr⟩ : ∃ rr, rr = reached (ledB os now) := ⟨_, rfl⟩
  have hrl : rr.length = 10 := by rw [hrr]; exact reached_len10 os now
  have CR : Hid (∀ w', Below w.heap.size w w' → Calls Tryz.prog 42 #[.slice (some pa) 10 c, .int .i64 now] w' fun e w'' => ∃ u, e = .returned u ∧ IsB rr u w'' ∧ Below w'.heap.size w' w'') := fun w' hb => (specReach_any _ os now w' (ha.on hb) (by omega) hs hf).mono fun e w'' h => by
    have e2 : reachAns os now = rr := by unfold reachAns; rw [hok, hrr]; rfl
    rw [e2] at h
    exact isB_ans h
  rw [← hrr]
  have HV0 : Hid ((w.alloc (boxH (.slice (some pa) 10 c) p t r (.slice ag xs.length cg))).heap[w.heap.size]? = some (boxH (.slice (some pa) 10 c) p t r (.slice ag xs.length cg))) := heap_alloc_new w _
  have HN : Hid (xs.length ≤ 9223372036854775807 ∧ rr.length = 10 ∧ os.length = 10) := ⟨by omega, hrl, hten⟩
  have HAX : Hid (∀ w', Below w.heap.size w w' → IsArena w' (.slice (some pa) 10 c) os ∧ IsInts w' (.slice ag xs.length cg) xs) := fun w' hb => ⟨ha.on hb, hx.on hb⟩
  have hcap : 10 ≤ c := by obtain ⟨_, _, hv, hc, _⟩ := id ha; have e := (Value.slice.inj hv).2.2; omega
  have HC0 : Hid (∀ (k : Nat) w', k < 10 → Below w.heap.size w w' → Calls Tryz.prog 44 #[.slice (some pa) 10 c, .int .i64 k] w' fun e w'' => ∃ u, e = .returned u ∧ IsInts w'' u (edgesTo os k 10) ∧ Below w'.heap.size w' w'') := fun k w' hk hb => (specEdges_any _ os k w' (ha.on hb) (by omega) hs hf).mono fun e w'' h => by
    have e2 : edgesAns os (k : Int) = edgesTo os k 10 := by unfold edgesAns; rw [hok, inB_yes (by omega) (by omega), Int.toNat_natCast, hten]; rfl
    rw [e2] at h
    obtain ⟨u, e1, e3, e4⟩ := h
    exact ⟨u, e1, isInts_own e3, e4⟩
  subst h0
  clear ha hx hl hs hf hn h1 hten hok hrr hrl
  go_enter Tryz.func18, Tryz.ntmps18
  go_wp2_with fail
  refine (CO.out _ (by go_grown)).mono ?_
  rintro e w1 ⟨rfl, hb⟩
  have HB1 : Hid (Below w.heap.size w w1) := below_more (by go_grown) hb
  have HV1 := hid_of (keep HV0.out hb)
  obtain ⟨k0, k1, k2, k3, k4⟩ := cells5 HV1.out
  clear hb CO HV0
  go_wp2_with fail
  refine (CR.out _ HB1.out).mono ?_
  rintro e w2 ⟨u, rfl, hu, hb⟩
  obtain ⟨av, nv, cv, rfl⟩ := hu.1
  have HB2 := hid_of (below_more HB1.out hb)
  have HV2 : Hid (∀ w', Below w2.heap.size w2 w' → w'.heap[w.heap.size]? = some (boxH (.slice (some pa) 10 c) 0 t r (.slice ag xs.length cg)) ∧ IsArena w' (.slice (some pa) 10 c) os ∧ IsInts w' (.slice ag xs.length cg) xs ∧ IsBools w' (.slice av nv cv) rr) := fun w' h => ⟨keep (keep HV1.out hb) h, (HAX.out _ (below_more HB2.out h)).1, (HAX.out _ (below_more HB2.out h)).2, hu.2.on h⟩
  obtain rfl : nv = 10 := by
    obtain ⟨_, _, hv, _, _⟩ := hu.2
    have e := (Value.slice.inj hv).2.1
    have h := HN.out
    omega
  have HC : Hid (∀ (k : Nat) w', k < 10 → Below w2.heap.size w2 w' → Calls Tryz.prog 44 #[.slice (some pa) 10 c, .int .i64 k] w' fun e w'' => ∃ u, e = .returned u ∧ IsInts w'' u (edgesTo os k 10) ∧ Below w'.heap.size w' w'') := fun k w' hk h => HC0.out k w' hk (below_more HB2.out h)
  clear hb hu CR HV1 k0 k1 k2 k3 k4 HB1 HC0
  obtain ⟨k0, k1, k2, k3, k4⟩ := cells5 (HV2.out w2 (Below.refl _ _)).1
  go_wp2
  clear k0 k1 k2 k3 k4
  go_loopw [7] (fun i wr => ∃ k : Nat, k ≤ 10 ∧ i = .int .i64 k ∧ Hid (noneTo (darkB os xs rr) k = true) ∧ Hid (Below w2.heap.size w2 wr)) (fun i _ => 10 - (intOf i).toNat)
  case atStart => exact ⟨0, Nat.zero_le _, rfl, rfl, Below.refl _ _⟩
  case round =>
    obtain ⟨k, hk, rfl, hd, hnx⟩ := hrel
    by_cases hlt : k < 10
    · have HH := hid_of (HV2.out wr hnx.out)
      obtain ⟨q, l, d, m, hq, hc⟩ := ar_at HH.out.2.1 (k := k) (by have h := HN.out; omega)
      obtain ⟨pv, rfl, hrc⟩ : ∃ pv, av = some pv ∧ wr.cell? (pv.add k) = some (.bool (gAt rr k)) := by
        obtain ⟨pv, cv', hsl, hrc⟩ := bools_at HH.out.2.2.2 (i := k) (by have h := HN.out; omega)
        have e := (Value.slice.inj hsl).1
        exact ⟨pv, e, hrc⟩
      have c9 := hc.c9
      obtain ⟨k0, k1, k2, k3, k4⟩ := cells5 HH.out.1
      have HS1 : Hid (darkB os xs rr k = true → noneTo (darkB os xs rr) 10 = false) := fun h => noneTo_no hlt h
      have HS2 : Hid (darkB os xs rr k = false → noneTo (darkB os xs rr) (k + 1) = true) := fun h => noneTo_yes hd.out h
      obtain ⟨oE, hoE⟩ : ∃ oE, oE = (edgesTo os k 10).any fun e => missB os rr e.toNat := ⟨_, rfl⟩
      have HSD : Hid (darkB os xs rr k = (gAt rr k && ((decide (k = 0) || (obAt os k).mark) && (!(hasI xs (k : Int)) && oE)))) := by rw [hoE]; exact (rfl : darkB os xs rr k = _)
      have HOE := hid_of hoE
      have HCT : Hid (Calls Tryz.prog 43 #[.slice ag xs.length cg, .int .i64 (k : Int)] wr fun e w'' => e = .returned (.bool (hasI xs (k : Int))) ∧ wr = w'') := specHas_any _ xs (k : Int) wr HH.out.2.2.1 HN.out.1
      have HCK := hid_of (HC.out k)
      generalize obAt os k = o at *
      generalize hogt : gAt rr k = og at *
      generalize hohi : hasI xs (k : Int) = oh at *
      clear hd hc hoE hogt hohi
      cases og with
      | false =>
        have HE : Hid (noneTo (darkB os xs rr) (k + 1) = true) := HS2.out (by rw [HSD.out]; rfl)
        clear HS1 HS2 HSD HOE HCK HCT
        go_wp2
        go_roundw
        case rel => exact ⟨k + 1, by omega, by go_num, HE.out, hnx⟩
        case measure => simp [intOf]; omega
      | true =>
        cases oh with
        | true =>
          have HE : Hid (noneTo (darkB os xs rr) (k + 1) = true) := HS2.out (by rw [HSD.out]; simp)
          clear HS1 HS2 HSD HOE HCK 
          go_wp2_with fail
          refine HCT.out.mono ?_
          rintro e w3 ⟨rfl, rfl⟩
          clear HCT
          go_wp2
          go_roundw
          case rel => exact ⟨k + 1, by omega, by go_num, HE.out, hnx⟩
          case measure => simp [intOf]; omega
        | false =>
          by_cases h0 : k = 0
          · have n0 : decide ((k : Int) > 0) = false := by simp; omega
            have n1 : decide ((0 : Int) < (k : Int)) = false := by simp; omega
            have n2 : decide (0 < k) = false := by simp; omega
            have HSA : Hid (oE = true → noneTo (darkB os xs rr) 10 = false) := fun h => HS1.out (by rw [HSD.out, h]; rw [decide_eq_true h0]; rfl)
            have HSB : Hid (oE = false → noneTo (darkB os xs rr) (k + 1) = true) := fun h => HS2.out (by rw [HSD.out, h]; simp)
            clear HS1 HS2 HSD h0
            go_wp2_with fail
            refine HCT.out.mono ?_
            rintro e w3 ⟨rfl, rfl⟩
            clear HCT
            go_wp2_with fail
            refine (HCK.out _ hlt hnx.out).mono ?_
            rintro e w4 ⟨u, rfl, hu, hb4⟩
            have HB4 := hid_of (below_more hnx.out hb4)
            obtain ⟨es, hes⟩ : ∃ es, es = edgesTo os k 10 := ⟨_, rfl⟩
            have HES : Hid (∀ j, j < es.length → ∃ m : Nat, es.getD j 0 = (m : Int) ∧ m < 10) := fun j hj => by
              rw [hes] at hj ⊢
              obtain ⟨m, e1, e2, _⟩ := edges_at hj
              exact ⟨m, e1, e2⟩
            rw [← hes] at hu HOE
            have hesl : es.length ≤ 10 := by rw [hes]; exact edgesTo_len os k 10
            have hu0 := hu
            obtain ⟨a5, c5, rfl, _, _⟩ := hu
            have HU : Hid (∀ w', Below w4.heap.size w4 w' → IsInts w' (.slice a5 es.length c5) es) := fun w' hb => hu0.on hb
            clear hb4 hu0 hes HCK k0 k1 k2 k3 k4 c9 hrc HH hq
            go_wp2
            obtain ⟨V, hV⟩ : ∃ V, V = wr := ⟨_, rfl⟩
            rw [← hV] at hnx
            clear hV
            go_loopw [9] (fun i wr => ∃ j : Nat, j ≤ es.length ∧ i = .int .i64 j ∧ Hid (∀ e, e ∈ es.take j → missB os rr e.toNat = false) ∧ Hid (Below w2.heap.size w2 wr) ∧ Hid (Below w4.heap.size w4 wr)) (fun i _ => es.length - (intOf i).toNat)
            case atStart => exact ⟨0, Nat.zero_le _, rfl, fun e he => absurd he (by simp), HB4.out, Below.refl _ _⟩
            case round =>
              obtain ⟨j, hj, rfl, hall, hnb, hn4⟩ := hrel
              by_cases hjl : j < es.length
              · have HH := hid_of (HV2.out wr hnb.out)
                obtain ⟨m, hm1, hm2⟩ := HES.out j hjl
                obtain ⟨p5, rfl, hc5⟩ : ∃ p5, a5 = some p5 ∧ wr.cell? (p5.add j) = some (.int .i64 (m : Int)) := by
                  obtain ⟨a', cap', hv, _, hx⟩ := HU.out wr hn4.out
                  obtain ⟨p5, e1, e2⟩ := hx j hjl
                  have e := (Value.slice.inj hv).1
                  rw [hm1] at e2
                  exact ⟨p5, by rw [e, e1], e2⟩
                obtain ⟨q, l, d, m', hq, hc⟩ := ar_at HH.out.2.1 (k := m) (by have h := HN.out; omega)
                have hrc : wr.cell? (pv.add m) = some (.bool (gAt rr m)) := by
                  obtain ⟨pv', cv', hsl, hrc⟩ := bools_at HH.out.2.2.2 (i := m) (by have h := HN.out; omega)
                  have e := Option.some.inj (Value.slice.inj hsl).1
                  rw [e]; exact hrc
                have c9 := hc.c9
                obtain ⟨k0, k1, k2, k3, k4⟩ := cells5 HH.out.1
                have HI1 : Hid (missB os rr m = true → noneTo (darkB os xs rr) 10 = false) := fun h => HSA.out (by
                  rw [HOE.out]
                  exact List.any_eq_true.2 ⟨_, all_memI hjl, by rw [hm1, Int.toNat_natCast]; exact h⟩)
                have HI2 : Hid (missB os rr m = false → ∀ e, e ∈ es.take (j + 1) → missB os rr e.toNat = false) := fun h e he => by
                  rw [take_oneI hjl, List.mem_append] at he
                  rcases he with h1 | h1
                  · exact hall.out e h1
                  · rw [List.mem_singleton] at h1; rw [h1, hm1, Int.toNat_natCast]; exact h
                have HMD : Hid (missB os rr m = (!(decide (m = 0)) && (gAt rr m && !(obAt os m).mark))) := rfl
                generalize obAt os m = o' at *
                generalize gAt rr m = og' at *
                clear hall hc hm1
                have hjz : (j : Int) < (es.length : Int) := by omega
                have hmz : (m : Int) < 10 := by omega
                by_cases h0 : m = 0
                · have HE : Hid (∀ e, e ∈ es.take (j + 1) → missB os rr e.toNat = false) := HI2.out (by rw [HMD.out, decide_eq_true h0]; rfl)
                  have n0 : decide ((m : Int) > 0) = false := by simp; omega
                  have n1 : decide ((0 : Int) < (m : Int)) = false := by simp; omega
                  have n2 : decide (0 < m) = false := by simp; omega
                  clear HI1 HI2 HMD h0
                  go_wp2
                  go_quiet (fail)
                  go_wp2
                  go_roundw
                  case rel => exact ⟨j + 1, by omega, by go_num, HE, below_drewN hnb.out _, below_drewN hn4.out _⟩
                  case measure => simp [intOf]; omega
                · have n0 : decide ((m : Int) > 0) = true := by simp; omega
                  have n1 : decide ((0 : Int) < (m : Int)) = true := by simp; omega
                  have n2 : decide (0 < m) = true := by simp; omega
                  cases og' with
                  | false =>
                    have HE : Hid (∀ e, e ∈ es.take (j + 1) → missB os rr e.toNat = false) := HI2.out (by rw [HMD.out, decide_eq_false h0]; rfl)
                    clear HI1 HI2 HMD h0
                    go_wp2
                    go_quiet (fail)
                    go_wp2
                    go_roundw
                    case rel => exact ⟨j + 1, by omega, by go_num, HE, below_drewN hnb.out _, below_drewN hn4.out _⟩
                    case measure => simp [intOf]; omega
                  | true =>
                    cases hmk : o'.mark with
                    | true =>
                      rw [hmk] at c9
                      have HE : Hid (∀ e, e ∈ es.take (j + 1) → missB os rr e.toNat = false) := HI2.out (by rw [HMD.out, decide_eq_false h0, hmk]; rfl)
                      clear HI1 HI2 HMD h0 hmk
                      go_wp2
                      go_quiet (fail)
                      go_wp2
                      go_roundw
                      case rel => exact ⟨j + 1, by omega, by go_num, HE, below_drewN hnb.out _, below_drewN hn4.out _⟩
                      case measure => simp [intOf]; omega
                    | false =>
                      rw [hmk] at c9
                      have HE : Hid (noneTo (darkB os xs rr) 10 = false) := HI1.out (by rw [HMD.out, decide_eq_false h0, hmk]; rfl)
                      clear HI1 HI2 HMD h0 hmk
                      go_wp2
                      go_quiet (fail)
                      go_wp2
                      go_ret
                      exact ⟨by rw [HE.out]; rfl, below_drewN (below_more HB2.out hnb.out) _⟩
              · obtain rfl : j = es.length := by omega
                have HE : Hid (noneTo (darkB os xs rr) (k + 1) = true) := HSB.out (by
                  rw [HOE.out]
                  exact List.any_eq_false.2 fun e he => by rw [hall.out e (by rw [List.take_length]; exact he)]; simp)
                clear hall
                go_wp2
                go_roundw
                case rel => exact ⟨k + 1, by omega, by go_num, HE.out, hnb⟩
                case measure => simp [intOf]; omega
          · have n0 : decide ((k : Int) > 0) = true := by simp; omega
            have n1 : decide ((0 : Int) < (k : Int)) = true := by simp; omega
            have n2 : decide (0 < k) = true := by simp; omega
            cases hmk : o.mark with
            | false =>
              rw [hmk] at c9
              have HE : Hid (noneTo (darkB os xs rr) (k + 1) = true) := HS2.out (by rw [HSD.out]; rw [decide_eq_false h0, hmk]; rfl)
              clear HS1 HS2 HSD HOE HCK h0 hmk
              go_wp2_with fail
              refine HCT.out.mono ?_
              rintro e w3 ⟨rfl, rfl⟩
              clear HCT
              go_wp2
              go_roundw
              case rel => exact ⟨k + 1, by omega, by go_num, HE.out, hnx⟩
              case measure => simp [intOf]; omega
            | true =>
              rw [hmk] at c9
              have HSA : Hid (oE = true → noneTo (darkB os xs rr) 10 = false) := fun h => HS1.out (by rw [HSD.out, h]; rw [hmk]; simp)
              have HSB : Hid (oE = false → noneTo (darkB os xs rr) (k + 1) = true) := fun h => HS2.out (by rw [HSD.out, h]; simp)
              clear HS1 HS2 HSD h0
              go_wp2_with fail
              refine HCT.out.mono ?_
              rintro e w3 ⟨rfl, rfl⟩
              clear HCT
              go_wp2_with fail
              refine (HCK.out _ hlt hnx.out).mono ?_
              rintro e w4 ⟨u, rfl, hu, hb4⟩
              have HB4 := hid_of (below_more hnx.out hb4)
              obtain ⟨es, hes⟩ : ∃ es, es = edgesTo os k 10 := ⟨_, rfl⟩
              have HES : Hid (∀ j, j < es.length → ∃ m : Nat, es.getD j 0 = (m : Int) ∧ m < 10) := fun j hj => by
                rw [hes] at hj ⊢
                obtain ⟨m, e1, e2, _⟩ := edges_at hj
                exact ⟨m, e1, e2⟩
              rw [← hes] at hu HOE
              have hesl : es.length ≤ 10 := by rw [hes]; exact edgesTo_len os k 10
              have hu0 := hu
              obtain ⟨a5, c5, rfl, _, _⟩ := hu
              have HU : Hid (∀ w', Below w4.heap.size w4 w' → IsInts w' (.slice a5 es.length c5) es) := fun w' hb => hu0.on hb
              clear hb4 hu0 hes HCK k0 k1 k2 k3 k4 c9 hrc HH hq
              go_wp2
              obtain ⟨V, hV⟩ : ∃ V, V = wr := ⟨_, rfl⟩
              rw [← hV] at hnx
              clear hV
              go_loopw [9] (fun i wr => ∃ j : Nat, j ≤ es.length ∧ i = .int .i64 j ∧ Hid (∀ e, e ∈ es.take j → missB os rr e.toNat = false) ∧ Hid (Below w2.heap.size w2 wr) ∧ Hid (Below w4.heap.size w4 wr)) (fun i _ => es.length - (intOf i).toNat)
              case atStart => exact ⟨0, Nat.zero_le _, rfl, fun e he => absurd he (by simp), HB4.out, Below.refl _ _⟩
              case round =>
                obtain ⟨j, hj, rfl, hall, hnb, hn4⟩ := hrel
                by_cases hjl : j < es.length
                · have HH := hid_of (HV2.out wr hnb.out)
                  obtain ⟨m, hm1, hm2⟩ := HES.out j hjl
                  obtain ⟨p5, rfl, hc5⟩ : ∃ p5, a5 = some p5 ∧ wr.cell? (p5.add j) = some (.int .i64 (m : Int)) := by
                    obtain ⟨a', cap', hv, _, hx⟩ := HU.out wr hn4.out
                    obtain ⟨p5, e1, e2⟩ := hx j hjl
                    have e := (Value.slice.inj hv).1
                    rw [hm1] at e2
                    exact ⟨p5, by rw [e, e1], e2⟩
                  obtain ⟨q, l, d, m', hq, hc⟩ := ar_at HH.out.2.1 (k := m) (by have h := HN.out; omega)
                  have hrc : wr.cell? (pv.add m) = some (.bool (gAt rr m)) := by
                    obtain ⟨pv', cv', hsl, hrc⟩ := bools_at HH.out.2.2.2 (i := m) (by have h := HN.out; omega)
                    have e := Option.some.inj (Value.slice.inj hsl).1
                    rw [e]; exact hrc
                  have c9 := hc.c9
                  obtain ⟨k0, k1, k2, k3, k4⟩ := cells5 HH.out.1
                  have HI1 : Hid (missB os rr m = true → noneTo (darkB os xs rr) 10 = false) := fun h => HSA.out (by
                    rw [HOE.out]
                    exact List.any_eq_true.2 ⟨_, all_memI hjl, by rw [hm1, Int.toNat_natCast]; exact h⟩)
                  have HI2 : Hid (missB os rr m = false → ∀ e, e ∈ es.take (j + 1) → missB os rr e.toNat = false) := fun h e he => by
                    rw [take_oneI hjl, List.mem_append] at he
                    rcases he with h1 | h1
                    · exact hall.out e h1
                    · rw [List.mem_singleton] at h1; rw [h1, hm1, Int.toNat_natCast]; exact h
                  have HMD : Hid (missB os rr m = (!(decide (m = 0)) && (gAt rr m && !(obAt os m).mark))) := rfl
                  generalize obAt os m = o' at *
                  generalize gAt rr m = og' at *
                  clear hall hc hm1
                  have hjz : (j : Int) < (es.length : Int) := by omega
                  have hmz : (m : Int) < 10 := by omega
                  by_cases h0 : m = 0
                  · have HE : Hid (∀ e, e ∈ es.take (j + 1) → missB os rr e.toNat = false) := HI2.out (by rw [HMD.out, decide_eq_true h0]; rfl)
                    have n0 : decide ((m : Int) > 0) = false := by simp; omega
                    have n1 : decide ((0 : Int) < (m : Int)) = false := by simp; omega
                    have n2 : decide (0 < m) = false := by simp; omega
                    clear HI1 HI2 HMD h0
                    go_wp2
                    go_quiet (fail)
                    go_wp2
                    go_roundw
                    case rel => exact ⟨j + 1, by omega, by go_num, HE, below_drewN hnb.out _, below_drewN hn4.out _⟩
                    case measure => simp [intOf]; omega
                  · have n0 : decide ((m : Int) > 0) = true := by simp; omega
                    have n1 : decide ((0 : Int) < (m : Int)) = true := by simp; omega
                    have n2 : decide (0 < m) = true := by simp; omega
                    cases og' with
                    | false =>
                      have HE : Hid (∀ e, e ∈ es.take (j + 1) → missB os rr e.toNat = false) := HI2.out (by rw [HMD.out, decide_eq_false h0]; rfl)
                      clear HI1 HI2 HMD h0
                      go_wp2
                      go_quiet (fail)
                      go_wp2
                      go_roundw
                      case rel => exact ⟨j + 1, by omega, by go_num, HE, below_drewN hnb.out _, below_drewN hn4.out _⟩
                      case measure => simp [intOf]; omega
                    | true =>
                      cases hmk : o'.mark with
                      | true =>
                        rw [hmk] at c9
                        have HE : Hid (∀ e, e ∈ es.take (j + 1) → missB os rr e.toNat = false) := HI2.out (by rw [HMD.out, decide_eq_false h0, hmk]; rfl)
                        clear HI1 HI2 HMD h0 hmk
                        go_wp2
                        go_quiet (fail)
                        go_wp2
                        go_roundw
                        case rel => exact ⟨j + 1, by omega, by go_num, HE, below_drewN hnb.out _, below_drewN hn4.out _⟩
                        case measure => simp [intOf]; omega
                      | false =>
                        rw [hmk] at c9
                        have HE : Hid (noneTo (darkB os xs rr) 10 = false) := HI1.out (by rw [HMD.out, decide_eq_false h0, hmk]; rfl)
                        clear HI1 HI2 HMD h0 hmk
                        go_wp2
                        go_quiet (fail)
                        go_wp2
                        go_ret
                        exact ⟨by rw [HE.out]; rfl, below_drewN (below_more HB2.out hnb.out) _⟩
                · obtain rfl : j = es.length := by omega
                  have HE : Hid (noneTo (darkB os xs rr) (k + 1) = true) := HSB.out (by
                    rw [HOE.out]
                    exact List.any_eq_false.2 fun e he => by rw [hall.out e (by rw [List.take_length]; exact he)]; simp)
                  clear hall
                  go_wp2
                  go_roundw
                  case rel => exact ⟨k + 1, by omega, by go_num, HE.out, hnb⟩
                  case measure => simp [intOf]; omega
    · obtain rfl : k = 10 := by omega
      go_wp2
      go_ret
      exact ⟨by rw [hd.out]; rfl, below_more HB2.out hnx.out⟩
theorem specSafe_any (pa : Addr) (c : Nat) (p t r : Int) (ag : Option Addr) (cg : Nat) (os : List Ob) (xs : List Int) (now : Int) (w : World) (ha : IsArena w (.slice (some pa) os.length c) os) (hx : IsInts w (.slice ag xs.length cg) xs) (hl : os.length ≤ 1048576) (hs : Small8 os) (hf : AllFit os) (hn : xs.length ≤ 1048576) :
    Calls Tryz.prog 18 #[hpV (.slice (some pa) os.length c) p t r (.slice ag xs.length cg), .int .i64 now] w fun e w' => e = .returned (.bool (safeOk os p t r xs now)) ∧ Below w.heap.size w w' := by
  unfold safeOk
  cases h1 : heapOk os p t r xs with
  | false => exact sSafe_no pa c p t r ag cg os xs now w ha hx hl hs hf hn h1
  | true =>
    by_cases hp : p = 0
    · rw [if_pos hp]
      exact sSafe_mark pa c p t r ag cg os xs now w ha hx hl hs hf hn hp h1
    · rw [if_neg hp]
      have h2 := h1
      unfold heapOk at h2
      simp only [Bool.and_eq_true] at h2
      have := inB_true h2.2.1
      exact sSafe_sweep pa c p t r ag cg os xs now w ha hx hl hs hf hn (by omega) h1
end Go.Proofs.YtbdljoldblpffaaGreat
