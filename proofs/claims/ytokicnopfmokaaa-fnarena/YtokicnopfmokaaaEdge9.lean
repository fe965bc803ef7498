/-
  Which things one thing leads to: the plain answer, and the program's and the model's helpers.
-/
import Derived.Test.YtokicnopfmokaaaAllI
import Derived.Test.YtokicnopfmokaaaAllM
namespace Go.Proofs.Ytokicnopfmokaaa
open Go.RowKit
set_option linter.unusedVariables false
set_option maxRecDepth 100000

/-- A list of ints that the call owns is handed back. -/
def IntsAns (xs : List Int) (w : World) (e : Ending) (w' : World) : Prop := ∃ v, e = .returned v ∧ w'.ownsRow w.heap.size 3 1 v xs.length (icells xs) ∧ Below w.heap.size w w'
theorem owns_len {w : World} {base : Nat} {v : Value} {n : Nat} {xs : List Value} (h : w.ownsRow base 3 1 v n xs) : ∃ a c, v = .slice a n c := by
  rcases h.2 with ⟨rfl, h0⟩ | ⟨g, cap, cur, rfl, _⟩
  · exact ⟨none, 0, by rw [h0]⟩
  · exact ⟨_, _, rfl⟩
theorem own_below {w w' : World} {base : Nat} {v : Value} {n : Nat} {xs : List Value} (h : w.ownsRow base 3 1 v n xs) (hb : Below w.heap.size w w') : w'.ownsRow base 3 1 v n xs := by
  refine ⟨h.1, ?_⟩
  rcases h.2 with h0 | ⟨g, cap, cur, hv, hbg, hg, rest⟩
  · exact .inl h0
  · exact .inr ⟨g, cap, cur, hv, hbg, keep hg hb, rest⟩
theorem one_new (w : World) (x : Int) : ∀ (j : Nat) u, (icells [x])[j]? = some u → (w.alloc (.cells #[.int .i64 x] 3 (0, 0))).cell? ⟨w.heap.size, j, none⟩ = some u := fun j u hj => by
  have := heap_alloc_new w (.cells #[.int .i64 x] 3 (0, 0))
  simp only [World.cell?, this]
  simpa [icells] using hj

theorem owns_down {w : World} {base base' : Nat} {v : Value} {n : Nat} {xs : List Value} (h : w.ownsRow base' 3 1 v n xs) (hb : base ≤ base') : w.ownsRow base 3 1 v n xs :=
  ⟨h.1, h.2.imp id fun ⟨g, cap, cur, hv, hbg, r⟩ => ⟨g, cap, cur, hv, Nat.le_trans hb hbg, r⟩⟩
def hasI (xs : List Int) (x : Int) : Bool := xs.any fun y => y == x
theorem hasI_yes {xs : List Int} {k : Nat} {x : Int} (h : k < xs.length) (he : xs.getD k 0 = x) : hasI xs x = true := List.any_eq_true.2 ⟨_, all_memI h, by rw [he]; simp⟩
theorem hasI_no {xs : List Int} {x : Int} (h : ∀ e, e ∈ xs.take xs.length → (e == x) = false) : hasI xs x = false := by
  rw [List.take_length] at h
  exact List.any_eq_false.2 fun e he => by rw [h e he]; simp
theorem has_more {xs : List Int} {k : Nat} {x : Int} (hlt : k < xs.length) (hall : ∀ e, e ∈ xs.take k → (e == x) = false) (hne : xs.getD k 0 ≠ x) : ∀ e, e ∈ xs.take (k + 1) → (e == x) = false := fun e he => by
  rw [take_oneI hlt, List.mem_append] at he
  rcases he with h | h
  · exact hall e h
  · rw [List.mem_singleton] at h; rw [h]; simpa using hne
theorem index_any (v : Value) (xs : List Int) (x : Int) (w : World) (hx : IsInts w v xs) (hn : xs.length ≤ 9223372036854775807) :
    Calls Try.prog 71 #[v, .int .i64 x] w fun e w' => (∃ y : Int, e = .returned (.int .i64 y) ∧ decide (0 ≤ y) = hasI xs x) ∧ w = w' := by
  obtain ⟨a, cap, rfl, hcap, hx⟩ := hx
  have HX : Hid (∀ i, i < xs.length → ∃ p, a = some p ∧ w.cell? (p.add i) = some (.int .i64 (xs.getD i 0))) := hx
  clear hx
  go_enter Try.func71, Try.ntmps71
  go_wp2
  go_loop [8] (fun i => ∃ k : Nat, k ≤ xs.length ∧ i = .int .i64 k ∧ Hid (∀ e, e ∈ xs.take k → (e == x) = false)) (fun i => xs.length - (intOf i).toNat)
  case atStart => exact ⟨0, Nat.zero_le _, rfl, fun e he => absurd he (by simp)⟩
  case round =>
    obtain ⟨k, hk, rfl, hall⟩ := hrel
    by_cases hlt : k < xs.length
    · obtain ⟨p, rfl, hc⟩ := HX.out k hlt
      by_cases he : xs.getD k 0 = x
      · have HE : Hid (decide (0 ≤ (k : Int)) = hasI xs x) := by show _ = _; rw [hasI_yes hlt he]; simp
        rw [he] at hc
        clear hall he
        go_wp2
        go_ret
        exact ⟨⟨_, rfl, HE.out⟩, rfl⟩
      · have HA : Hid (∀ e, e ∈ xs.take (k + 1) → (e == x) = false) := has_more hlt hall.out he
        obtain ⟨y, hy⟩ : ∃ y, y = xs.getD k 0 := ⟨_, rfl⟩
        rw [← hy] at hc he
        have hne : (x == y) = false := beq_eq_false_iff_ne.2 fun h => he h.symm
        clear hall he hy
        go_wp2
        exact ⟨⟨k + 1, by omega, by go_num, HA⟩, by simp [intOf]; omega⟩
    · obtain rfl : k = xs.length := by omega
      have HE : Hid (decide (0 ≤ (-1 : Int)) = hasI xs x) := by show _ = _; rw [hasI_no hall.out]; rfl
      clear hall
      go_wp2
      go_ret
      exact ⟨⟨_, rfl, HE.out⟩, rfl⟩
theorem contains_any (v : Value) (xs : List Int) (x : Int) (w : World) (hx : IsInts w v xs) (hn : xs.length ≤ 9223372036854775807) :
    Calls Try.prog 63 #[v, .int .i64 x] w fun e w' => e = .returned (.bool (hasI xs x)) ∧ w = w' := by
  have C := index_any v xs x w hx hn
  generalize hasI xs x = o at C ⊢
  obtain ⟨a, cap, rfl, _, _⟩ := hx
  go_enter Try.func63, Try.ntmps63
  go_wp2_with fail
  refine C.mono ?_
  rintro e w1 ⟨⟨y, rfl, hy⟩, rfl⟩
  clear C
  have HX : Hid (decide (0 ≤ y) = o) := hy
  clear hy
  go_wp2
  go_ret
  exact ⟨by rw [← HX.out]; rfl, rfl⟩
/-- Thing i is a box in which thing k lies. -/
def holdsB (os : List Ob) (i k : Nat) : Bool := ((obAt os i).kind == 1) && (!((obAt os k).kind == 0) && ((obAt os k).into == (i : Int)))
def edgeB (os : List Ob) (i k : Nat) : Bool := holdsB os i k || hasI (obAt os i).ls (k : Int)
def edgesTo (os : List Ob) (i n : Nat) : List Int := ((List.range n).filter (edgeB os i)).map fun (k : Nat) => (k : Int)
theorem edgesTo_next (os : List Ob) (i n : Nat) : edgesTo os i (n + 1) = if edgeB os i n = true then edgesTo os i n ++ [(n : Int)] else edgesTo os i n := by
  unfold edgesTo
  rw [List.range_succ, List.filter_append, List.map_append]
  cases h : edgeB os i n <;> simp [h]
theorem edgesTo_yes {os : List Ob} {i n : Nat} (h : edgeB os i n = true) : edgesTo os i (n + 1) = edgesTo os i n ++ [(n : Int)] := by rw [edgesTo_next, if_pos h]
theorem edgesTo_no {os : List Ob} {i n : Nat} (h : edgeB os i n = false) : edgesTo os i (n + 1) = edgesTo os i n := by rw [edgesTo_next, if_neg (by rw [h]; simp)]
theorem edgesTo_len (os : List Ob) (i n : Nat) : (edgesTo os i n).length ≤ n := by
  have := List.length_filter_le (edgeB os i) (List.range n)
  rw [List.length_range] at this
  unfold edgesTo
  rw [List.length_map]; exact this
set_option maxHeartbeats 1000000 in
theorem implHolds_any (v : Value) (os : List Ob) (i k : Nat) (w : World) (hx : IsArena w v os) (hi : i < os.length) (hk : k < os.length) (hn : os.length ≤ 1048576) :
    Calls Try.prog 62 #[v, .int .i64 i, .int .i64 k] w fun e w' => e = .returned (.bool (holdsB os i k)) ∧ w = w' := by
  obtain ⟨a, cap, rfl, hcap, _⟩ := id hx
  obtain ⟨p, q, l, d, m, rfl, hq, hci, _⟩ := hx.at hi
  obtain ⟨p', q2, l2, d2, m2, hp, hq2, hck, _⟩ := hx.at hk
  obtain rfl : p = p' := by simpa using hp
  have a1 := hci.c1
  have b1 := hck.c1
  have b2 := hck.c2
  unfold holdsB
  clear hci hck hp hx
  generalize (obAt os i).kind = x at *
  generalize (obAt os k).kind = y at *
  generalize (obAt os k).into = z at *
  by_cases h1 : x = 1
  · subst h1
    by_cases h2 : y = 0
    · subst h2
      go_enter Try.func62, Try.ntmps62
      go_wp2
      go_ret
      exact ⟨rfl, rfl⟩
    · have e2 : (y == 0) = false := beq_eq_false_iff_ne.2 h2
      have e3 : (y != 0) = true := by simp [bne, e2]
      rw [e2]
      clear h2 e2
      by_cases h3 : z = (i : Int)
      · subst h3
        have e4 : ((i : Int) == (i : Int)) = true := by simp
        rw [e4]
        go_enter Try.func62, Try.ntmps62
        go_wp2
        go_ret
        exact ⟨rfl, rfl⟩
      · have e4 : (z == (i : Int)) = false := beq_eq_false_iff_ne.2 h3
        rw [e4]
        clear h3
        go_enter Try.func62, Try.ntmps62
        go_wp2
        go_ret
        exact ⟨rfl, rfl⟩
  · have e1 : (x == 1) = false := beq_eq_false_iff_ne.2 h1
    rw [e1]
    clear h1
    go_enter Try.func62, Try.ntmps62
    go_wp2
    go_ret
    exact ⟨rfl, rfl⟩
set_option maxHeartbeats 4000000 in
theorem implEdgesOf_any (v : Value) (os : List Ob) (i : Nat) (w : World) (hx : IsArena w v os) (hi : i < os.length) (hn : os.length ≤ 1048576) (hs : (obAt os i).ls.length ≤ 9223372036854775807) :
    Calls Try.prog 50 #[v, .int .i64 i] w fun e w' => IntsAns (edgesTo os i os.length) w e w' := by
  have HX : Hid (∀ w', Below w.heap.size w w' → IsArena w' v os) := fun w' hb => hx.on hb
  have HC : Hid (∀ k w', k < os.length → Below w.heap.size w w' → Calls Try.prog 62 #[v, .int .i64 i, .int .i64 k] w' fun e w'' => e = .returned (.bool (holdsB os i k)) ∧ w' = w'') := fun k w' hk hb => implHolds_any v os i k w' (hx.on hb) hi hk hn
  have HL : Hid ((obAt os i).ls.length ≤ 9223372036854775807) := hs
  obtain ⟨a, cap, rfl, hcap, _⟩ := hx
  go_enter Try.func50, Try.ntmps50
  go_wp2
  go_loopw [5, 9] (fun s5 s9 wr => ∃ (k : Nat) (xs : List Int), s9 = .int .i64 k ∧ k ≤ os.length ∧ xs.length ≤ k ∧ Hid (xs = edgesTo os i k) ∧ Hid (wr.ownsRow w.heap.size 3 1 s5 xs.length (icells xs)) ∧ Hid (Below w.heap.size w wr)) (fun _ s9 _ => os.length - (intOf s9).toNat)
  case atStart => exact ⟨0, [], rfl, Nat.zero_le _, Nat.le_refl _, rfl, hid_of (World.ownsRow_nil _ _ _ _), hid_of (Below.refl _ _)⟩
  case round =>
    obtain ⟨k, xs, rfl, hk, hxk, HXS, HO, HB⟩ := hrel
    by_cases hlt : k < os.length
    · have C := HC.out k wr hlt HB.out
      obtain ⟨p, q, l, d, m, rfl, hq, hcs, hu⟩ := (HX.out wr HB.out).at hi
      have c10 := hcs.c10
      have D := contains_any l (obAt os i).ls (k : Int) wr hu.ls HL.out
      have HY0 : Hid (edgeB os i k = true → xs ++ [(k : Int)] = edgesTo os i (k + 1)) := fun e => by rw [HXS.out, edgesTo_yes e]
      have HN0 : Hid (edgeB os i k = false → xs = edgesTo os i (k + 1)) := fun e => by rw [HXS.out, edgesTo_no e]
      clear hcs hu HXS
      cases hb : holdsB os i k with
      | true =>
        have HY : Hid (xs ++ [(k : Int)] = edgesTo os i (k + 1)) := HY0.out (by unfold edgeB; rw [hb]; rfl)
        rw [hb] at C
        clear D c10 HY0 HN0 hb
        have H1 : Hid ((wr.alloc (.cells #[.int .i64 (k : Int)] 3 (0, 0))).ownsRow w.heap.size 3 1 u5 xs.length (icells xs)) := HO.out.alloc _
        have H2 := hid_of (one_new wr (k : Int))
        have H3 : Hid (Below w.heap.size w (wr.alloc (.cells #[.int .i64 (k : Int)] 3 (0, 0)))) := HB.out.alloc HB.out.size _
        have H4 : Hid (w.heap.size ≤ (wr.alloc (.cells #[.int .i64 (k : Int)] 3 (0, 0))).heap.size) := H3.out.size
        have HE2 : Hid (xs ++ [(k : Int)] = edgesTo os i (k + 1)) := HY.out
        clear HO HB HY
        go_wp2_with fail
        refine C.mono ?_
        rintro e w1 ⟨rfl, rfl⟩
        clear C
        go_wp2_with (at_builtin; refine wpList_appI rfl (.tmp 25) (.tmp 27) rfl w _ w.heap.size wr.heap.size _ xs [(k : Int)] 1 1 rfl rfl H1.out H2.out rfl (by omega) H4.out H3.out ?_; intro v' w3 hown' hnx')
        go_roundw
        case rel => exact ⟨k + 1, xs ++ [(k : Int)], by go_num, by omega, by simp; omega, HE2, hown', hnx'⟩
        case measure => simp [intOf]; omega
      | false =>
        rw [hb] at C
        cases hd : hasI (obAt os i).ls (k : Int) with
        | true =>
          have HY : Hid (xs ++ [(k : Int)] = edgesTo os i (k + 1)) := HY0.out (by unfold edgeB; rw [hb, hd]; rfl)
          rw [hd] at D
          clear HY0 HN0 hb hd
          have H1 : Hid ((wr.alloc (.cells #[.int .i64 (k : Int)] 3 (0, 0))).ownsRow w.heap.size 3 1 u5 xs.length (icells xs)) := HO.out.alloc _
          have H2 := hid_of (one_new wr (k : Int))
          have H3 : Hid (Below w.heap.size w (wr.alloc (.cells #[.int .i64 (k : Int)] 3 (0, 0)))) := HB.out.alloc HB.out.size _
          have H4 : Hid (w.heap.size ≤ (wr.alloc (.cells #[.int .i64 (k : Int)] 3 (0, 0))).heap.size) := H3.out.size
          have HE2 : Hid (xs ++ [(k : Int)] = edgesTo os i (k + 1)) := HY.out
          clear HO HB HY
          go_wp2_with fail
          refine C.mono ?_
          rintro e w1 ⟨rfl, rfl⟩
          clear C
          go_wp2_with fail
          refine D.mono ?_
          rintro e w1 ⟨rfl, rfl⟩
          clear D
          go_wp2_with (at_builtin; refine wpList_appI rfl (.tmp 25) (.tmp 27) rfl w _ w.heap.size wr.heap.size _ xs [(k : Int)] 1 1 rfl rfl H1.out H2.out rfl (by omega) H4.out H3.out ?_; intro v' w3 hown' hnx')
          go_roundw
          case rel => exact ⟨k + 1, xs ++ [(k : Int)], by go_num, by omega, by simp; omega, HE2, hown', hnx'⟩
          case measure => simp [intOf]; omega
        | false =>
          have HN : Hid (xs = edgesTo os i (k + 1)) := HN0.out (by unfold edgeB; rw [hb, hd]; rfl)
          rw [hd] at D
          clear HY0 HN0 hb hd
          go_wp2_with fail
          refine C.mono ?_
          rintro e w1 ⟨rfl, rfl⟩
          clear C
          go_wp2_with fail
          refine D.mono ?_
          rintro e w1 ⟨rfl, rfl⟩
          clear D
          go_wp2
          go_roundw
          case rel => exact ⟨k + 1, xs, by go_num, by omega, by omega, HN, HO, HB⟩
          case measure => simp [intOf]; omega
    · obtain rfl : k = os.length := by omega
      have HE : Hid (wr.ownsRow w.heap.size 3 1 u5 (edgesTo os i os.length).length (icells (edgesTo os i os.length))) := by rw [← HXS.out]; exact HO
      clear HO HXS
      go_wp2
      go_ret
      exact ⟨_, rfl, HE.out, HB.out⟩
end Go.Proofs.Ytokicnopfmokaaa
