/-
  Copies of trees that the call owns; the model's small functions on trees.
-/
import Derived.Test.YtfcenombphodbaaDoorSpecOk
import Derived.Lib.LazyBuf
namespace Go.Proofs.YtfcenombphodbaaDoor
open Go.RowKit
set_option linter.unusedVariables false
set_option maxRecDepth 100000

theorem rcells_one (ts : List Re) : ∀ v ∈ rcells ts, v.oneCell' = true := by
  intro v hv
  simp only [rcells, List.mem_flatMap] at hv
  obtain ⟨c, _, hc⟩ := hv
  simp at hc
  rcases hc with rfl | rfl | rfl | rfl | rfl <;> rfl
theorem tcells_src {w : World} {p : Addr} {n cap : Nat} {ts : List Re} (h : IsTree w (.slice (some p) n cap) ts) : ∀ (j : Nat) u, (rcells ts)[j]? = some u → w.cell? (p.add j) = some u := by
  intro j u hj
  have hl := rcells_length ts
  have hlt : j < (rcells ts).length := by
    rcases Nat.lt_or_ge j (rcells ts).length with h | h
    · exact h
    · rw [List.getElem?_eq_none h] at hj; cases hj
  obtain ⟨a, cap', hv, _, hx⟩ := h
  cases hv
  obtain ⟨p', hp, h1⟩ := hx (j / 5) (by omega)
  cases hp
  have hc := rcells_at ts (j / 5) (by omega)
  have hcase : j % 5 = 0 ∨ j % 5 = 1 ∨ j % 5 = 2 ∨ j % 5 = 3 ∨ j % 5 = 4 := by omega
  rcases hcase with hm | hm | hm | hm | hm
  · have e : j = j / 5 * 5 := by omega
    rw [e] at hj ⊢
    rw [hc.1] at hj
    rw [h1.c0]; exact hj
  · have e : j = j / 5 * 5 + 1 := by omega
    rw [e] at hj ⊢
    rw [hc.2.1] at hj
    rw [add_up _ _ _ (by omega), h1.c1]; exact hj
  · have e : j = j / 5 * 5 + 2 := by omega
    rw [e] at hj ⊢
    rw [hc.2.2.1] at hj
    rw [add_up _ _ _ (by omega), h1.c2]; exact hj
  · have e : j = j / 5 * 5 + 3 := by omega
    rw [e] at hj ⊢
    rw [hc.2.2.2.1] at hj
    rw [add_up _ _ _ (by omega), h1.c3]; exact hj
  · have e : j = j / 5 * 5 + 4 := by omega
    rw [e] at hj ⊢
    rw [hc.2.2.2.2] at hj
    rw [add_up _ _ _ (by omega), h1.c4]; exact hj
theorem ownsT_empty (w : World) : (w.alloc (.cells #[] 39 (0, 0))).ownsRow w.heap.size 39 5 (.slice (some ⟨w.heap.size, 0, none⟩) 0 0) 0 [] :=
  ⟨by simp, .inr ⟨w.heap.size, 0, #[], rfl, Nat.le_refl _, heap_alloc_new w _, Nat.le_refl _, Nat.zero_le _, by simp, by simp⟩⟩
theorem ownT_of {w : World} {base n : Nat} {v : Value} {ts : List Re} (h : w.ownsRow base 39 5 v n (rcells ts)) (hn : n = ts.length) (hv : v ≠ .slice none 0 0) : ∃ g cap rest, v = .slice (some ⟨g, 0, none⟩) ts.length cap ∧ OwnT g cap ts rest base w.heap.size w := by
  subst hn
  rcases h.2 with ⟨h0, _⟩ | ⟨g, cap, cur, rfl, hb, hg, hcap, hm, hs, htake⟩
  · exact absurd h0 hv
  · refine ⟨g, cap, cur.toList.drop (ts.length * 5), rfl, ?_, hcap, hb, lt_of_block hg⟩
    unfold TreeIn
    rw [← htake, List.take_append_drop]
    exact hg
/-- append([]Res{}, l...), as one step. -/
theorem wpList_copyT {ops : Array Oper} {rest : List Oper} {o : Oper} {a : Act} {Q : Exit → Act → World → Prop} (hgd : o.guard = none) (s x : Operand)
    (ho : o.op = .call { callee := .builtin .append, args := #[s, x], argTypes := #[32, 32] }) (w : World) (p : Addr) (cap : Nat) (ts : List Re) (n : Nat) (hn : n = ts.length)
    (hs : a.eval s = .slice (some ⟨w.heap.size, 0, none⟩) 0 0) (hx : a.eval x = .slice (some p) n cap) (hc : IsTree w (.slice (some p) n cap) ts) (hb : ts.length ≤ 1048576)
    (h : ∀ g c rs w', Hid (OwnT g c ts rs w.heap.size w'.heap.size w') → Hid (Below w.heap.size w w') → wpList Tryd.prog ops Q rest (a.put o.dst (.slice (some ⟨g, 0, none⟩) n c)) w') : wpList Tryd.prog ops Q (o :: rest) a (w.alloc (.cells #[] 39 (0, 0))) := by
  subst hn
  obtain ⟨i0, hi, hz0, hz1, hz2⟩ := info_parts infoRes
  have hcells := tcells_src (hc.on (below_alloc w (.cells #[] 39 (0, 0))))
  refine wpList_append_own _ hgd s x 32 ho w.heap.size 39 i0 _ 5 40 Tryd.underlying32 hi hz0 hz1 hz2 rfl (by decide) _ 0 [] hs (ownsT_empty w) p ts.length cap (rcells ts) hx (rcells_length ts) hcells (rcells_one ts) (by simp only [maxLen]; omega) (by omega) (by simp) ?_
  intro v' w' h1 h2 h3
  rw [Nat.zero_add, List.nil_append] at h1
  have hne : v' ≠ .slice none 0 0 := fun e => by have := (h3.1 e).1; cases this
  obtain ⟨g, c, rs, rfl, ho⟩ := ownT_of h1 rfl hne
  refine h g c rs w' ho ?_
  exact (below_alloc w _).grown h2 (by simp) (fun k hk => by simp [Value.ownBlock] at hk; omega)

/-- A tree of the call's own is handed back. -/
def CopyOf (ts : List Re) (n : Nat) (w : World) (e : Ending) (w' : World) : Prop := ∃ g c rs, e = .returned (.slice (some ⟨g, 0, none⟩) n c) ∧ OwnT g c ts rs w.heap.size w'.heap.size w' ∧ Below w.heap.size w w'
set_option maxHeartbeats 1000000 in
theorem specCopy_any (p : Addr) (n cap : Nat) (ts : List Re) (w : World) (hx : IsTree w (.slice (some p) n cap) ts) (hn : n = ts.length) (hl : ts.length ≤ 1048576) :
    Calls Tryd.prog 58 #[.slice (some p) n cap] w fun e w' => CopyOf ts n w e w' := by
  have HX : Hid (IsTree w (.slice (some p) n cap) ts) := hx
  have HN : Hid (n = ts.length) := hn
  clear hx hn
  go_enter Tryd.func58, Tryd.ntmps58
  go_wp2_with (refine wpList_copyT rfl (.tmp 3) (.tmp 4) rfl w p cap ts n HN.out rfl rfl HX.out hl ?_; intro g c rs w' ho hb)
  go_ret
  exact ⟨g, c, rs, rfl, ho.out, hb.out⟩

/-- Is there a reserve i in a right tree? -/
def liveIn (ts : List Re) (i : Int) : Bool := treeOk ts && (decide (0 ≤ i) && decide (i ≤ 4)) && (reAt ts i.toNat).live
theorem treeOk_five {ts : List Re} (h : treeOk ts = true) : ts.length = 5 := by
  by_cases hl : ts.length = 5
  · exact hl
  · rw [treeOk_len hl] at h; cases h
set_option maxHeartbeats 1000000 in
theorem specLive_any (v : Value) (ts : List Re) (i : Int) (w : World) (hx : IsTree w v ts) (hn : ts.length ≤ 1048576) :
    Calls Tryd.prog 27 #[v, .int .i64 i] w fun e w' => e = .returned (.bool (liveIn ts i)) ∧ Below w.heap.size w w' := by
  have C := specOk_any v ts w hx hn
  have CR := fun w => l6Res_any i w
  have hx0 := hx
  obtain ⟨a, cap, rfl, hcap, _⟩ := hx
  cases hok : treeOk ts with
  | false =>
    have e : liveIn ts i = false := by simp [liveIn, hok]
    rw [e]
    rw [hok] at C
    clear hok e hx0
    go_enter Tryd.func27, Tryd.ntmps27
    go_wp2_with fail
    refine C.mono ?_
    rintro e w1 ⟨rfl, hb⟩
    clear C
    go_wp2
    go_ret
    exact ⟨rfl, hb⟩
  | true =>
    have hl := treeOk_five hok
    rw [hok] at C
    cases hr : (decide (0 ≤ i) && decide (i ≤ 4)) with
    | false =>
      have e : liveIn ts i = false := by simp only [liveIn, hok, hr]; rfl
      rw [e]
      rw [hr] at CR
      clear hok e hx0 hr hl
      go_enter Tryd.func27, Tryd.ntmps27
      go_wp2_with fail
      refine C.mono ?_
      rintro e w1 ⟨rfl, hb⟩
      clear C
      go_wp2_with fail
      refine (CR _).mono ?_
      rintro e w2 ⟨rfl, rfl⟩
      go_wp2
      go_ret
      exact ⟨rfl, hb⟩
    | true =>
      obtain ⟨m, rfl, hm⟩ : ∃ m : Nat, i = (m : Int) ∧ m < 5 := by
        simp at hr
        exact ⟨i.toNat, by omega, by omega⟩
      have e : liveIn ts (m : Int) = (reAt ts m).live := by simp only [liveIn, hok, hr, Int.toNat_natCast]; rfl
      rw [e]
      rw [hr] at CR
      have HX : Hid (IsTree w (.slice a ts.length cap) ts) := hx0
      have HL : Hid (ts.length = 5) := hl
      obtain ⟨p, q, rfl, hq, hc⟩ := hx0.at (i := m) (by omega)
      have HC : Hid (∀ w', Below w.heap.size w w' → w'.cell? q = some (.bool (reAt ts m).live)) := fun w' hb => (hc.on hb).c0
      generalize (reAt ts m).live = l at HC ⊢
      rw [hl] at C hcap ⊢
      clear hok e hx0 hr hl hc
      go_enter Tryd.func27, Tryd.ntmps27
      go_wp2_with fail
      refine C.mono ?_
      rintro e w1 ⟨rfl, hb⟩
      have k0 := HC.out w1 hb
      clear C HC
      go_wp2_with fail
      refine (CR _).mono ?_
      rintro e w2 ⟨rfl, rfl⟩
      go_wp2
      go_ret
      exact ⟨by simp, hb⟩
/-- The sum of a tree; nought where it isn't right. -/
def sumT (f : Re → Int) (ts : List Re) : Int := if treeOk ts then sumN f ts 5 else 0
theorem treeOk_amts {ts : List Re} (h : treeOk ts = true) : ∀ i, i < 5 → amtOk (reAt ts i).a (reAt ts i).b (reAt ts i).c = true := by
  intro i hi
  cases hp : (placeOk (reAt ts i) && parOk ts i) with
  | false => rw [treeOk_place hi hp] at h; cases h
  | true => simp [placeOk] at hp; exact hp.1.2
set_option maxHeartbeats 1000000 in
theorem specTreeSum_any (v : Value) (ts : List Re) (w : World) (hx : IsTree w v ts) (hn : ts.length ≤ 1048576) :
    Calls Tryd.prog 38 #[v] w fun e w' => e = .returned (amt (sumT Re.a ts) (sumT Re.b ts) (sumT Re.c ts)) ∧ Below w.heap.size w w' := by
  have hb0 : Below w.heap.size w (w.alloc (boxA 0 0 0)) := below_alloc w _
  have hbx : Box3 (w.alloc (boxA 0 0 0)) w.heap.size 37 0 0 0 := ⟨heap_alloc_new w _⟩
  have C := specOk_any v ts (w.alloc (boxA 0 0 0)) (hx.on hb0) hn
  have hx0 := hx
  obtain ⟨a, cap, rfl, hcap, _⟩ := hx
  have HB0 : Hid (Below w.heap.size w (w.alloc (boxA 0 0 0))) := hb0
  have HX0 : Hid (Box3 (w.alloc (boxA 0 0 0)) w.heap.size 37 0 0 0) := hbx
  clear hb0 hbx
  cases hok : treeOk ts with
  | false =>
    have e1 : ∀ f, sumT f ts = 0 := fun f => by simp [sumT, hok]
    rw [e1, e1, e1]
    rw [hok] at C
    clear hok e1 hx0
    go_enter Tryd.func38, Tryd.ntmps38
    go_wp2_with fail
    refine C.mono ?_
    rintro e w1 ⟨rfl, hb⟩
    have b1 : Box3 w1 w.heap.size 37 0 0 0 := HX0.out.on hb (by simp)
    have HB1 : Hid (Below w.heap.size w w1) := below_more HB0.out hb
    have r0 := b1.c0
    have r1 := b1.c1
    have r2 := b1.c2
    have f0 := b1.f0 0
    have f1 := b1.f0 1
    have f2 := b1.f0 2
    have HP := hid_of (b1.put (.int .i64 0) (.int .i64 0) (.int .i64 0))
    clear C hb b1
    go_wp2
    obtain ⟨p0, p1, p2⟩ := HP.out
    refine bodyPost_ret (v := amt 0 0 0) (by simp [results, go_sem, p0, p1, p2]) rfl ⟨rfl, below_put HB1.out (Nat.le_refl _) _ _ _⟩
  | true =>
    have hl := treeOk_five hok
    have e1 : ∀ f, sumT f ts = sumN f ts 5 := fun f => by simp [sumT, hok]
    rw [e1, e1, e1]
    rw [hok] at C
    have HC : Hid (∀ w', Below w.heap.size w w' → Calls Tryd.prog 34 #[.slice a ts.length cap] w' fun e w'' => e = .returned (amt (sumN Re.a ts 5) (sumN Re.b ts 5) (sumN Re.c ts 5)) ∧ Below w'.heap.size w' w'') := fun w' hb => specSum_any _ ts w' (hx0.on hb) hl (treeOk_amts hok)
    generalize sumN Re.a ts 5 = s1 at HC ⊢
    generalize sumN Re.b ts 5 = s2 at HC ⊢
    generalize sumN Re.c ts 5 = s3 at HC ⊢
    clear hok e1 hx0 hl
    go_enter Tryd.func38, Tryd.ntmps38
    go_wp2_with fail
    refine C.mono ?_
    rintro e w1 ⟨rfl, hb⟩
    have b1 : Box3 w1 w.heap.size 37 0 0 0 := HX0.out.on hb (by simp)
    have HB1 : Hid (Below w.heap.size w w1) := below_more HB0.out hb
    have HX1 : Hid (Box3 w1 w.heap.size 37 0 0 0) := b1
    clear C hb b1
    go_wp2_with fail
    refine (HC.out w1 HB1.out).mono ?_
    rintro e w2 ⟨rfl, hb⟩
    have b1 : Box3 w2 w.heap.size 37 0 0 0 := HX1.out.on hb (lt_of_block HX1.out.at')
    have HB2 : Hid (Below w.heap.size w w2) := below_more HB1.out hb
    have r0 := b1.c0
    have r1 := b1.c1
    have r2 := b1.c2
    have f0 := b1.f0 0
    have f1 := b1.f0 1
    have f2 := b1.f0 2
    have HP := hid_of (b1.put (.int .i64 s1) (.int .i64 s2) (.int .i64 s3))
    clear HC hb b1
    go_wp2
    obtain ⟨p0, p1, p2⟩ := HP.out
    refine bodyPost_ret (v := amt s1 s2 s3) (by simp [results, go_sem, p0, p1, p2]) rfl ⟨rfl, below_put HB2.out (Nat.le_refl _) _ _ _⟩
end Go.Proofs.YtfcenombphodbaaDoor
