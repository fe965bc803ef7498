/-
  From parent to parent: what TreeAbove answers, of both sides.
-/
import Derived.Test.YtikaibfahanpnaaDoorIntsT
import Derived.Test.YtikaibfahanpnaaDoorIBack
namespace Go.Proofs.YtikaibfahanpnaaDoor
open Go.RowKit
set_option linter.unusedVariables false
set_option maxRecDepth 100000

/-- From a place up to 0, in fewer than n steps. -/
def aboveN (ts : List Re) : Nat → Nat → List Int
  | 0, _ => []
  | n + 1, A => if A = 0 then [] else (reAt ts A).par :: aboveN ts n (reAt ts A).par.toNat
def aboveOf (ts : List Re) (i : Int) : List Int := if liveIn ts i then aboveN ts 5 i.toNat else []
theorem aboveN_zero (ts : List Re) (n : Nat) : aboveN ts n 0 = [] := by cases n <;> simp [aboveN]
theorem aboveN_up (ts : List Re) (n A m : Nat) (hA : 0 < A) (hm : (reAt ts A).par = (m : Int)) : aboveN ts (n + 1) A = (m : Int) :: aboveN ts n m := by
  simp only [aboveN]
  rw [if_neg (by omega), hm]
  simp
theorem aboveN_length (ts : List Re) : ∀ n A, (aboveN ts n A).length ≤ n := by
  intro n
  induction n with
  | zero => intro A; simp [aboveN]
  | succ n ih => intro A; simp only [aboveN]; split <;> simp; exact ih _
theorem aboveOf_length (ts : List Re) (i : Int) : (aboveOf ts i).length ≤ 5 := by
  unfold aboveOf; split
  · exact aboveN_length ts 5 _
  · simp
theorem climb_next {ts : List Re} {n A : Nat} (hA : 0 < A) (h : climb ts n (A : Int) = true) : ∃ k m : Nat, n = k + 1 ∧ (reAt ts A).par = (m : Int) ∧ m < ts.length ∧ climb ts k (m : Int) = true := by
  cases n with
  | zero => cases h
  | succ k =>
    rw [climb_up ts k A hA] at h
    simp only [Bool.and_eq_true] at h
    obtain ⟨m, hm, hml, _⟩ := livePl_yes h.1
    rw [hm] at h
    exact ⟨k, m, rfl, hm, hml, h.2⟩
theorem live_climb {ts : List Re} {m : Nat} (hok : treeOk ts = true) (hm : m < 5) (hl : (reAt ts m).live = true) : climb ts 5 (m : Int) = true := by
  have := (implOk_parts (by rw [implOk_eq]; exact hok)).2.2.2.2.2 m hm
  simpa [climbs, hl] using this
def lenOf : Value → Nat
  | .slice _ n _ => n
  | _ => 0
/-- A list of ints that the call owns is handed back. -/
def IntsAns (xs : List Int) (w : World) (e : Ending) (w' : World) : Prop := ∃ v, e = .returned v ∧ w'.ownsRow w.heap.size 3 1 v xs.length (icells xs) ∧ Below w.heap.size w w'
theorem owns_len {w : World} {base : Nat} {v : Value} {n : Nat} {xs : List Value} (h : w.ownsRow base 3 1 v n xs) : ∃ a c, v = .slice a n c := by
  rcases h.2 with ⟨rfl, h0⟩ | ⟨g, cap, cur, rfl, _⟩
  · exact ⟨none, 0, by rw [h0]⟩
  · exact ⟨_, _, rfl⟩
theorem own_below {w w' : World} {base : Nat} {v : Value} {n : Nat} {xs : List Value} (h : w.ownsRow base 3 1 v n xs) (hb : Below w.heap.size w w') : w'.ownsRow base 3 1 v n xs := by
  refine ⟨h.1, ?_⟩
  rcases h.2 with h0 | ⟨g, cap, cur, hv, hbg, hg, rest⟩
  · exact .inl h0
  · exact .inr ⟨g, cap, cur, hv, hbg, keep hg hb, rest⟩
theorem one_new (w : World) (x : Int) : ∀ (j : Nat) u, (icells [x])[j]? = some u → (w.alloc (.cells #[.int .i64 x] 3 (0, 0))).cell? ⟨w.heap.size, j, none⟩ = some u := fun j u hj => by
  have := heap_alloc_new w (.cells #[.int .i64 x] 3 (0, 0))
  simp only [World.cell?, this]
  simpa [icells] using hj

set_option maxRecDepth 100000 in
set_option maxHeartbeats 4000000 in
theorem implAbove_any (v : Value) (ts : List Re) (i0 : Int) (w : World) (hx : IsTree w v ts) (hn : ts.length ≤ 1048576) :
    Calls Tryd.prog 16 #[v, .int .i64 i0] w fun e w' => IntsAns (aboveOf ts i0) w e w' := by
  have C := implTreeOk_any v ts w hx hn
  have hx0 := hx
  obtain ⟨a, cap, rfl, hcap, _⟩ := hx
  have HCL : Hid (∀ w', Below w.heap.size w w' → Calls Tryd.prog 30 #[.slice a ts.length cap, .int .i64 i0] w' fun e w'' => e = .returned (.bool (livePl ts i0)) ∧ w' = w'') := fun w' hb => implLive_any _ ts i0 w' (hx0.on hb) hn
  have HX : Hid (∀ w', Below w.heap.size w w' → IsTree w' (.slice a ts.length cap) ts) := fun w' hb => hx0.on hb
  clear hx0
  cases hok : treeOk ts with
  | false =>
    have e1 : aboveOf ts i0 = [] := by simp [aboveOf, liveIn, hok]
    rw [e1]
    rw [hok] at C
    clear hok e1 HCL HX
    go_enter Tryd.func16, Tryd.ntmps16
    go_wp2_with fail
    refine C.mono ?_
    rintro e w1 ⟨rfl, hb⟩
    clear C
    go_wp2
    go_ret
    exact ⟨_, rfl, World.ownsRow_nil _ _ _ _, hb⟩
  | true =>
    rw [hok] at C
    rw [live_eq hok] at HCL
    cases hlive : liveIn ts i0 with
    | false =>
      have e1 : aboveOf ts i0 = [] := by simp [aboveOf, hlive]
      rw [e1]
      rw [hlive] at HCL
      clear hok e1 HX hlive
      go_enter Tryd.func16, Tryd.ntmps16
      go_wp2_with fail
      refine C.mono ?_
      rintro e w1 ⟨rfl, hb⟩
      have HB1 := hid_of hb
      clear C hb
      go_wp2_with fail
      refine (HCL.out w1 HB1.out).mono ?_
      rintro e w2 ⟨rfl, hw2⟩
      subst hw2
      go_wp2
      go_ret
      exact ⟨_, rfl, World.ownsRow_nil _ _ _ _, HB1.out⟩
    | true =>
      rw [hlive] at HCL
      obtain ⟨m, rfl, hm⟩ : ∃ m : Nat, i0 = (m : Int) ∧ m < 5 := by
        unfold liveIn at hlive; simp at hlive
        exact ⟨i0.toNat, by omega, by omega⟩
      have hlv : (reAt ts m).live = true := by unfold liveIn at hlive; simp at hlive; exact hlive.2
      have h5 := treeOk_five hok
      obtain ⟨tot, htot⟩ : ∃ t, t = aboveOf ts (m : Int) := ⟨_, rfl⟩
      have HST : Hid ([] ++ aboveN ts 5 m = tot) := by show _ = _; rw [htot]; simp [aboveOf, hlive]
      have HCB : Hid (climb ts 5 (m : Int) = true) := live_climb hok hm hlv
      have HML : Hid (m < ts.length) := by show _ < _; omega
      rw [← htot]
      have h6 : ts.length ≤ 1048576 := hn
      clear hok hlive hlv h5 htot hm hn
      go_enter Tryd.func16, Tryd.ntmps16
      go_wp2_with fail
      refine C.mono ?_
      rintro e w1 ⟨rfl, hb⟩
      have HB1 := hid_of hb
      clear C hb
      go_wp2_with fail
      refine (HCL.out w1 HB1.out).mono ?_
      rintro e w2 ⟨rfl, hw2⟩
      subst hw2
      clear HCL
      go_wp2
      go_loopw [1, 5] (fun s1 s5 wr => ∃ (n A : Nat) (xs : List Int), s1 = .int .i64 A ∧ A < ts.length ∧ xs.length + n = 5 ∧ Hid (climb ts n (A : Int) = true) ∧ Hid (xs ++ aboveN ts n A = tot) ∧ Hid (wr.ownsRow w.heap.size 3 1 s5 xs.length (icells xs)) ∧ Hid (Below w.heap.size w wr)) (fun _ s5 _ => 6 - lenOf s5)
      case atStart => exact ⟨5, m, [], rfl, HML.out, rfl, HCB, HST, hid_of (World.ownsRow_nil _ _ _ _), HB1⟩
      case round =>
        obtain ⟨n, A, xs, rfl, hA, hxn, HC, HS, HO, HB⟩ := hrel
        clear HB1 HCB HST
        by_cases hA0 : A = 0
        · subst hA0
          have HE : Hid (wr.ownsRow w.heap.size 3 1 u5 tot.length (icells tot)) := by
            have h := HS.out
            rw [aboveN_zero, List.append_nil] at h
            rw [← h]
            exact HO
          go_wp2
          go_ret
          exact ⟨_, rfl, HE.out, HB.out⟩
        · have hA1 : 0 < A := by omega
          have hAi : ¬ ((A : Int) = 0) := by omega
          have hne : ((A : Int) != 0) = true := by simpa using hAi
          obtain ⟨k, m', hnk, hpar, hml, hck⟩ := climb_next hA1 HC.out
          obtain ⟨p, q, rfl, hq, hca⟩ := (HX.out wr HB.out).at hA
          have c1 := hca.c1
          rw [hpar] at c1
          have HS2 : Hid ((xs ++ [(m' : Int)]) ++ aboveN ts k m' = tot) := by
            show _ = _
            rw [← HS.out, hnk, aboveN_up ts k A m' hA1 hpar]
            simp
          have hAi2 : (A : Int) < (ts.length : Int) := by omega
          have H1 : Hid ((wr.alloc (.cells #[.int .i64 (m' : Int)] 3 (0, 0))).ownsRow w.heap.size 3 1 u5 xs.length (icells xs)) := HO.out.alloc _
          have H2 := hid_of (one_new wr (m' : Int))
          have H3 : Hid (Below w.heap.size w (wr.alloc (.cells #[.int .i64 (m' : Int)] 3 (0, 0)))) := HB.out.alloc HB.out.size _
          have H4 : Hid (w.heap.size ≤ (wr.alloc (.cells #[.int .i64 (m' : Int)] 3 (0, 0))).heap.size) := H3.out.size
          obtain ⟨a5, c5, hu5⟩ := owns_len HO.out
          have HK := hid_of hck
          clear hca hpar HS HO HC hck
          go_wp2_with (refine wpList_appI rfl (.tmp 22) (.tmp 24) rfl w _ w.heap.size wr.heap.size _ xs [(m' : Int)] 1 1 rfl rfl H1.out H2.out rfl (by omega) H4.out H3.out ?_; intro v' w3 hown' hnx')
          obtain ⟨a6, c6, hu6⟩ := owns_len hown'.out
          refine ⟨⟨k, m', xs ++ [(m' : Int)], rfl, hml, by simp; omega, HK, HS2, hown', hnx'⟩, ?_⟩
          rw [hu5, hu6]
          simp [lenOf]
          omega

end Go.Proofs.YtikaibfahanpnaaDoor
