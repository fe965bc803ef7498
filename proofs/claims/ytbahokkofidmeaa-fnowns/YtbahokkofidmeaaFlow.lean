/-
  What flows for an owner, and what it needs: the program's own walk.
-/
import Derived.Test.YtbahokkofidmeaaOwned
import Derived.Test.YtbahokkofidmeaaIRight
import Derived.Test.YtbahokkofidmeaaReadS
namespace Go.Proofs.Ytbahokkofidmeaa
open Go.RowKit Go.Maps
set_option linter.unusedVariables false

/-- Must category 'i' be owned? -/
def mustOwn (xs ys : List Int) (i : Nat) : Bool := decide (ys.getD i 0 < xs.getD i 0)
/-- Is it owned where it must be? -/
def lets (own xs ys : List Int) (i : Nat) : Bool := !mustOwn xs ys i || own.contains (i : Int)
/-- Does it flow for the owner? -/
def flowsFor (own xs ys : List Int) : Bool := ownOk own && labelOk xs && labelOk ys && (List.range 4).all (lets own xs ys)
/-- What is needed of the first 'k'. -/
def needTo (xs ys : List Int) (k : Nat) : List Int := ((List.range k).filter (mustOwn xs ys)).map Int.ofNat
/-- What is needed. -/
def needsOf (own xs ys : List Int) : List Int := if flowsFor own xs ys then needTo xs ys 4 else []
theorem needTo_zero (xs ys : List Int) : needTo xs ys 0 = [] := rfl
theorem needTo_same {xs ys : List Int} {k : Nat} (h : mustOwn xs ys k = false) : needTo xs ys (k + 1) = needTo xs ys k := by simp [needTo, List.range_succ, h]
theorem needTo_more {xs ys : List Int} {k : Nat} (h : mustOwn xs ys k = true) : needTo xs ys (k + 1) = needTo xs ys k ++ [(k : Int)] := by simp [needTo, List.range_succ, h]
theorem needTo_length (xs ys : List Int) (k : Nat) : (needTo xs ys k).length ≤ k := by
  unfold needTo
  rw [List.length_map]
  exact Nat.le_trans (List.length_filter_le _ _) (by simp)
theorem flowsFor_no {own xs ys : List Int} (h : (ownOk own && labelOk xs && labelOk ys) = false) : flowsFor own xs ys = false := by unfold flowsFor; rw [h]; rfl
theorem flowsFor_at {own xs ys : List Int} {k : Nat} (hk : k < 4) (h : lets own xs ys k = false) : flowsFor own xs ys = false := by
  unfold flowsFor
  have : (List.range 4).all (lets own xs ys) = false := List.all_eq_false.2 ⟨k, List.mem_range.2 hk, by simp [h]⟩
  rw [this, Bool.and_false]
theorem flowsFor_yes {own xs ys : List Int} (h : (ownOk own && labelOk xs && labelOk ys) = true) (hl : ∀ i, i < 4 → lets own xs ys i = true) : flowsFor own xs ys = true := by
  unfold flowsFor
  rw [h, Bool.true_and]
  exact List.all_eq_true.2 fun i hi => hl i (List.mem_range.1 hi)
theorem needsOf_no {own xs ys : List Int} (h : flowsFor own xs ys = false) : needsOf own xs ys = [] := by simp [needsOf, h]
theorem needsOf_yes {own xs ys : List Int} (h : flowsFor own xs ys = true) : needsOf own xs ys = needTo xs ys 4 := by simp [needsOf, h]
theorem ownedTo_all (own : List Int) (x : Int) : ((ownedTo own own.length) x).getD 0 = if own.contains x then 1 else 0 := by
  unfold ownedTo
  rw [List.take_length]
  by_cases h : x ∈ own <;> simp [h]
theorem MapII.below {w w' : World} {s b n : Nat} {f : Int → Option Int} (h : MapII w b n f) (hb : Below s w w') (hlt : b < s) : MapII w' b n f := by
  obtain ⟨D, ⟨es, clock, hb0, r⟩, q⟩ := h
  exact ⟨D, ⟨es, clock, by rw [hb.block b hlt]; exact hb0, r⟩, q⟩
/-- An array of four that holds 'xs'. -/
def ArrAt (w : World) (g : Nat) (xs : List Int) : Prop := w.heap[g]? = some (.cells #[.int .i64 (xs.getD 0 0), .int .i64 (xs.getD 1 0), .int .i64 (xs.getD 2 0), .int .i64 (xs.getD 3 0)] 66 (0, 0))
theorem ArrAt.cell {w : World} {g : Nat} {xs : List Int} (h : ArrAt w g xs) {k : Nat} (hk : k < 4) : w.cell? ⟨g, k, none⟩ = some (.int .i64 (xs.getD k 0)) := by
  unfold ArrAt at h
  match k, hk with
  | 0, _ => simp [World.cell?, h]
  | 1, _ => simp [World.cell?, h]
  | 2, _ => simp [World.cell?, h]
  | 3, _ => simp [World.cell?, h]
theorem ArrAt.below {w w' : World} {s g : Nat} {xs : List Int} (h : ArrAt w g xs) (hb : Below s w w') (hlt : g < s) : ArrAt w' g xs := by
  unfold ArrAt at *; rw [hb.block g hlt]; exact h

theorem below_alloc' (w : World) (o : Obj) : Below w.heap.size w (w.alloc o) := (Below.refl _ _).alloc (Nat.le_refl _) _

set_option maxHeartbeats 2000000 in
theorem neededOf_yes (o v u : Value) (own xs ys : List Int) (w : World) (ho : IsInts w o own) (hx : IsInts w v xs) (hy : IsInts w u ys) (hn : own.length ≤ 1048576) (h1 : ownOk own = true) (h2 : labelOk xs = true) (h3 : labelOk ys = true) :
    Calls Try.prog 39 #[o, .agg #[v], .agg #[u]] w fun e w' => ∃ r, e = .returned (.tuple #[r, .bool (flowsFor own xs ys)]) ∧ w'.ownsRow w.heap.size 3 1 r (needsOf own xs ys).length (icells (needsOf own xs ys)) ∧ Below w.heap.size w w' := by
  have B0 := Behind.start w v u
  have c0 := ownedOf_any o own (boxed w v u) (ho.on B0.below) hn
  unfold OwnedAns at c0
  rw [h1] at c0
  simp only [if_true, boxed_size] at c0
  have c1 := fun w' (hb : Below w.heap.size w w') => levelsOf_any v xs w' (hx.on hb)
  have c2 := fun w' (hb : Below w.heap.size w w') => levelsOf_any u ys w' (hy.on hb)
  have l1 : xs.length = 4 := by unfold labelOk at h2; simp at h2; exact h2.1
  have l2 : ys.length = 4 := by unfold labelOk at h3; simp at h3; exact h3.1
  simp only [pad4_yes l1, h2] at c1
  simp only [pad4_yes l2, h3] at c2
  have C1 : Hid (∀ w', Below w.heap.size w w' → _) := c1
  have C2 : Hid (∀ w', Below w.heap.size w w' → _) := c2
  have HB0 : Hid (Behind w v u (boxed w v u)) := B0
  have HF : Hid ((ownOk own && labelOk xs && labelOk ys) = true) := by show _ = true; rw [h1, h2, h3]; rfl
  clear c1 c2 B0 ho hx hy h1 h2 h3 l1 l2
  go_enter Try.func39, Try.ntmps39
  go_wp2_with fail
  refine c0.mono ?_
  rintro e w1 ⟨⟨rfl, hm⟩, hb1⟩
  clear c0
  have B1 := HB0.out.on (hb1.mono (by simp [boxed_size]))
  have k1 := B1.one
  have HB1 : Hid (Behind w v u w1) := B1
  have HM1 : Hid (MapII w1 (w.heap.size + 1 + 1) own.length (ownedTo own own.length)) := hm
  clear B1 hb1 HB0 hm
  go_wp2_with fail
  refine (C1.out _ HB1.out.below).mono ?_
  rintro e w2 ⟨rfl, hb2⟩
  have B2 := HB1.out.on hb2
  have k2 := B2.two
  have s2 := B2.below.size
  have HM2 : Hid (MapII w2 (w.heap.size + 1 + 1) own.length (ownedTo own own.length)) := HM1.out.below hb2 HM1.out.lt
  have hsz : w.heap.size + 1 + 1 < w2.heap.size := HM2.out.lt
  have hbA : Below w2.heap.size w2 (w2.alloc (.cells #[.int .i64 (xs.getD 0 0), .int .i64 (xs.getD 1 0), .int .i64 (xs.getD 2 0), .int .i64 (xs.getD 3 0)] 66 (0, 0))) := below_alloc' w2 _
  have HB2 : Hid (Behind w v u (w2.alloc (.cells #[.int .i64 (xs.getD 0 0), .int .i64 (xs.getD 1 0), .int .i64 (xs.getD 2 0), .int .i64 (xs.getD 3 0)] 66 (0, 0)))) := B2.on hbA
  have HM2' : Hid (MapII (w2.alloc (.cells #[.int .i64 (xs.getD 0 0), .int .i64 (xs.getD 1 0), .int .i64 (xs.getD 2 0), .int .i64 (xs.getD 3 0)] 66 (0, 0))) (w.heap.size + 1 + 1) own.length (ownedTo own own.length)) := HM2.out.below hbA hsz
  have HA2 : Hid (ArrAt (w2.alloc (.cells #[.int .i64 (xs.getD 0 0), .int .i64 (xs.getD 1 0), .int .i64 (xs.getD 2 0), .int .i64 (xs.getD 3 0)] 66 (0, 0))) w2.heap.size xs) := heap_alloc_new w2 _
  have hl1 : w.heap.size + 1 < w2.heap.size := by omega
  clear B2 hb2 HB1 HM1 HM2 hbA k1
  go_wp2_with fail
  refine (C2.out _ HB2.out.below).mono ?_
  rintro e w3 ⟨rfl, hb3⟩
  have B3 := HB2.out.on hb3
  have HM3 : Hid (MapII w3 (w.heap.size + 1 + 1) own.length (ownedTo own own.length)) := HM2'.out.below hb3 HM2'.out.lt
  have HA3 : Hid (ArrAt w3 w2.heap.size xs) := HA2.out.below hb3 (by simp)
  have hsz3 : w2.heap.size < w3.heap.size := by have := hb3.size; simp at this; omega
  have hbB : Below w3.heap.size w3 (w3.alloc (.cells #[.int .i64 (ys.getD 0 0), .int .i64 (ys.getD 1 0), .int .i64 (ys.getD 2 0), .int .i64 (ys.getD 3 0)] 66 (0, 0))) := below_alloc' w3 _
  obtain ⟨W, hW⟩ : ∃ W, W = w3.alloc (.cells #[.int .i64 (ys.getD 0 0), .int .i64 (ys.getD 1 0), .int .i64 (ys.getD 2 0), .int .i64 (ys.getD 3 0)] 66 (0, 0)) := ⟨_, rfl⟩
  have HBW : Hid (Below w.heap.size w W) := by rw [hW]; exact (B3.on hbB).below
  have HMW : Hid (MapII W (w.heap.size + 1 + 1) own.length (ownedTo own own.length)) := by show MapII _ _ _ _; rw [hW]; exact HM3.out.below hbB (by omega)
  have HAW : Hid (ArrAt W w2.heap.size xs) := by show ArrAt _ _ _; rw [hW]; exact HA3.out.below hbB hsz3
  have HCW : Hid (ArrAt W w3.heap.size ys) := by show ArrAt _ _ _; rw [hW]; exact heap_alloc_new w3 _
  have hszW : w3.heap.size < W.heap.size := by rw [hW]; simp
  have HW : Hid (W = w3.alloc (.cells #[.int .i64 (ys.getD 0 0), .int .i64 (ys.getD 1 0), .int .i64 (ys.getD 2 0), .int .i64 (ys.getD 3 0)] 66 (0, 0))) := hW
  have hbW : Below W.heap.size W W := Below.refl _ _
  rw [hW] at hbW
  have HG : Hid (∀ wr, Below W.heap.size W wr → ∀ k, k < 4 → wr.cell? ⟨w2.heap.size, k, none⟩ = some (.int .i64 (xs.getD k 0)) ∧ wr.cell? ⟨w3.heap.size, k, none⟩ = some (.int .i64 (ys.getD k 0))) := fun wr hb k hk =>
    ⟨(HAW.out.below hb (by omega)).cell hk, (HCW.out.below hb (by omega)).cell hk⟩
  have HMG : Hid (∀ wr, Below W.heap.size W wr → MapII wr (w.heap.size + 1 + 1) own.length (ownedTo own own.length)) := fun wr hb => HMW.out.below hb (by omega)
  have HSW : Hid (w.heap.size ≤ W.heap.size) := HBW.out.size
  clear hb3 B3 HB2 HM2' HA2 HM3 HA3 HMW HAW HCW k2 hbB hW hbW hl1 s2
  go_wp2
  go_loopw [14, 41] (fun out i wr => ∃ k : Nat, k ≤ 4 ∧ i = .int .i64 k ∧ Hid (∀ i, i < k → lets own xs ys i = true) ∧ Hid (wr.ownsRow W.heap.size 3 1 out (needTo xs ys k).length (icells (needTo xs ys k))) ∧ Below W.heap.size W wr) (fun _ i _ => 4 - (intOf i).toNat)
  case atStart => exact ⟨0, Nat.zero_le _, rfl, fun i hi => absurd hi (Nat.not_lt_zero _), World.ownsRow_nil _ _ _ _, by rw [HW.out]; exact Below.refl _ _⟩
  case round =>
    obtain ⟨k, hk, rfl, hall, hrow, hnx⟩ := hrel
    by_cases hlt : k < 4
    · obtain ⟨ca, cb⟩ := HG.out wr hnx k hlt
      have hmap : Hid (∀ n, MapII (wr.drewN n) (w.heap.size + 1 + 1) own.length (ownedTo own own.length)) := fun n => HMG.out _ (below_drewN hnx n)
      have hfk : Hid (Fits64 (k : Int)) := show Fits64 _ by unfold Fits64; omega
      have HX1 : Hid (lets own xs ys k = true → ∀ i, i < k + 1 → lets own xs ys i = true) := fun h i hi => by
        by_cases he : i = k
        · rw [he]; exact h
        · exact hall.out i (by omega)
      have HO : Hid ((ownedTo own own.length (k : Int)).getD 0 = if own.contains (k : Int) then 1 else 0) := ownedTo_all own k
      have HX2 : Hid (lets own xs ys k = false → flowsFor own xs ys = false) := fun h => flowsFor_at hlt h
      by_cases hmu : ys.getD k 0 < xs.getD k 0
      · have HMU : Hid (mustOwn xs ys k = true) := by show _ = true; simp only [mustOwn, hmu, decide_true]
        have hng : ¬ xs.getD k 0 ≤ ys.getD k 0 := by omega
        obtain ⟨x, hx⟩ : ∃ x, x = xs.getD k 0 := ⟨_, rfl⟩
        obtain ⟨y, hy⟩ : ∃ y, y = ys.getD k 0 := ⟨_, rfl⟩
        rw [← hx] at ca hng
        rw [← hy] at cb hng
        clear hx hy hmu hall
        by_cases hc : own.contains (k : Int) = true
        · have HL : Hid (∀ i, i < k + 1 → lets own xs ys i = true) := HX1.out (by unfold lets; rw [hc]; simp)
          have HO1 : Hid ((ownedTo own own.length (k : Int)).getD 0 = 1) := by show _ = _; rw [HO.out, hc]; rfl
          have HN : Hid (needTo xs ys (k + 1) = needTo xs ys k ++ [(k : Int)]) := needTo_more HMU.out
          have HLen : Hid ((needTo xs ys k).length ≤ 4) := Nat.le_trans (needTo_length xs ys k) hk
          clear HO HX1 HX2 hc HMU
          generalize needTo xs ys k = acc at hrow HN HLen
          go_wp2
          go_quiet (fail)
          have hnq := below_drewN hnx nq
          have HNQ : Hid (Below W.heap.size W ((wr.drewN nq).alloc (.cells #[.int .i64 (k : Int)] 3 (0, 0)))) := hnq.alloc hnq.size _
          have HRQ : Hid (((wr.drewN nq).alloc (.cells #[.int .i64 (k : Int)] 3 (0, 0))).ownsRow W.heap.size 3 1 u14 acc.length (icells acc)) := hrow.out.alloc _
          have HCQ : Hid (∀ (j : Nat) u, (icells [(k : Int)])[j]? = some u → ((wr.drewN nq).alloc (.cells #[.int .i64 (k : Int)] 3 (0, 0))).cell? ⟨wr.heap.size, j, none⟩ = some u) := fun j u hj => by
            have := cell_one_new (wr.drewN nq) (.int .i64 (k : Int)) 3 j u hj
            rw [add_head] at this
            exact this
          go_wp2_with (first | (at_lookup; refine wpList_look _ rfl _ _ rfl _ _ _ rfl (hmap.out _) (k : Int) rfl hfk.out ?_; rw [HO1.out]) | (at_builtin; refine wpList_appI rfl (.tmp 55) (.tmp 57) rfl W _ W.heap.size wr.heap.size u14 acc [(k : Int)] 1 1 rfl rfl HRQ.out HCQ.out rfl (by have := HLen.out; omega) HNQ.out.size HNQ.out ?_; intro v' w3 hown' hnx'))
          go_roundw
          case rel => exact ⟨k + 1, by omega, by go_num, HL, (show World.ownsRow _ _ _ _ _ _ _ by rw [HN.out]; exact hown'.out), hnx'.out⟩
          case measure => simp [intOf]; omega
        · have hc' : own.contains (k : Int) = false := by simpa using hc
          have HL : Hid (flowsFor own xs ys = false) := HX2.out (by unfold lets; rw [hc', HMU.out]; rfl)
          have HO1 : Hid ((ownedTo own own.length (k : Int)).getD 0 = 0) := by show _ = _; rw [HO.out, hc']; rfl
          have HBE : Hid (∀ n, Below w.heap.size w (wr.drewN n)) := fun n => HBW.out.trans ((below_drewN hnx n).mono HSW.out)
          clear HO HX1 HX2 hc hc' HMU hrow
          go_wp2
          go_quiet (fail)
          go_wp2_with (at_lookup; refine wpList_look _ rfl _ _ rfl _ _ _ rfl (hmap.out _) (k : Int) rfl hfk.out ?_; rw [HO1.out])
          go_ret2
          rw [HL.out, needsOf_no HL.out]
          exact ⟨_, rfl, World.ownsRow_nil _ _ _ _, HBE.out _⟩
      · have HMU : Hid (mustOwn xs ys k = false) := by show _ = false; simp only [mustOwn, hmu, decide_false]
        have hng : xs.getD k 0 ≤ ys.getD k 0 := by omega
        have HL : Hid (∀ i, i < k + 1 → lets own xs ys i = true) := HX1.out (by unfold lets; rw [HMU.out]; simp)
        have HR : Hid (wr.ownsRow W.heap.size 3 1 u14 (needTo xs ys (k + 1)).length (icells (needTo xs ys (k + 1)))) := by
          show World.ownsRow _ _ _ _ _ _ _
          rw [needTo_same HMU.out]; exact hrow.out
        obtain ⟨x, hx⟩ : ∃ x, x = xs.getD k 0 := ⟨_, rfl⟩
        obtain ⟨y, hy⟩ : ∃ y, y = ys.getD k 0 := ⟨_, rfl⟩
        rw [← hx] at ca hng
        rw [← hy] at cb hng
        clear hx hy hmu hall HX1 HX2 HO hrow hmap
        go_wp2
        go_quiet (fail)
        go_wp2
        go_roundw
        case rel => exact ⟨k + 1, by omega, by go_num, HL, HR.out, below_drewN hnx _⟩
        case measure => simp [intOf]; omega
    · obtain rfl : k = 4 := by omega
      have HY : Hid (flowsFor own xs ys = true) := flowsFor_yes HF.out hall.out
      have HR : Hid (wr.ownsRow w.heap.size 3 1 u14 (needsOf own xs ys).length (icells (needsOf own xs ys))) := by
        show World.ownsRow _ _ _ _ _ _ _
        rw [needsOf_yes HY.out]; exact own_from hrow.out HSW.out
      have HBE : Hid (Below w.heap.size w wr) := HBW.out.trans (hnx.mono HSW.out)
      clear hall hrow
      go_wp2
      go_ret2
      rw [HY.out]
      exact ⟨_, rfl, HR.out, HBE.out⟩
end Go.Proofs.Ytbahokkofidmeaa
