/-
  What is reached: two ways to reckon it come to the same. Lists of Bools: made, held against each other, marked, and found so. Has a thing run out?
-/
import Derived.Test.YtbdljoldblpffaaGreatTree
import Derived.Test.YtbdljoldblpffaaGreatMarkO8
import Derived.Test.YtbdljoldblpffaaGreatArT
namespace Go.Proofs.YtbdljoldblpffaaGreat
open Go.RowKit
set_option linter.unusedVariables false
set_option maxRecDepth 100000

def gAt (r : List Bool) (k : Nat) : Bool := r.getD k false
def cnt : List Bool → Nat
  | [] => 0
  | b :: l => (if b = true then 1 else 0) + cnt l
theorem cnt_le : ∀ l : List Bool, cnt l ≤ l.length
  | [] => Nat.le_refl _
  | b :: l => by have := cnt_le l; cases b <;> simp [cnt] <;> omega
theorem cnt_mono : ∀ a b : List Bool, a.length = b.length → (∀ k, gAt a k = true → gAt b k = true) → cnt a ≤ cnt b
  | [], [], _, _ => Nat.le_refl _
  | x :: a, y :: b, h, hs => by
    have ih := cnt_mono a b (by simpa using h) fun k hk => by have := hs (k + 1); simpa [gAt] using this (by simpa [gAt] using hk)
    have h0 : x = true → y = true := fun hx => by have := hs 0; simpa [gAt] using this (by simpa [gAt] using hx)
    cases x <;> cases y <;> simp [cnt] at h0 ⊢ <;> omega
theorem cnt_lt : ∀ a b : List Bool, a.length = b.length → (∀ k, gAt a k = true → gAt b k = true) → a ≠ b → cnt a < cnt b
  | [], [], _, _, hne => absurd rfl hne
  | x :: a, y :: b, h, hs, hne => by
    have hs' : ∀ k, gAt a k = true → gAt b k = true := fun k hk => by have := hs (k + 1); simpa [gAt] using this (by simpa [gAt] using hk)
    have hl : a.length = b.length := by simpa using h
    have h0 : x = true → y = true := fun hx => by have := hs 0; simpa [gAt] using this (by simpa [gAt] using hx)
    have im := cnt_mono a b hl hs'
    by_cases hab : a = b
    · subst hab
      cases x <;> cases y <;> simp [cnt] at h0 hne ⊢
    · have ih := cnt_lt a b hl hs' hab
      cases x <;> cases y <;> simp [cnt] at h0 ⊢ <;> omega
theorem gAt_set (r : List Bool) (i k : Nat) (h : i < r.length) : gAt (r.set i true) k = (gAt r k || decide (k = i)) := by
  unfold gAt
  rw [List.getD_eq_getElem?_getD, List.getElem?_set]
  by_cases e : i = k
  · subst e; simp [h]
  · rw [if_neg e, List.getD_eq_getElem?_getD]; simp [show ¬ k = i from fun h => e h.symm]
theorem cnt_set : ∀ (r : List Bool) (i : Nat), i < r.length → gAt r i = false → cnt (r.set i true) = cnt r + 1
  | [], _, h, _ => absurd h (by simp)
  | b :: r, 0, _, h0 => by
    have e : b = false := by simpa [gAt] using h0
    subst e; simp [cnt]; omega
  | b :: r, i + 1, h, h0 => by
    have ih := cnt_set r i (by simpa using h) (by simpa [gAt] using h0)
    simp [cnt, ih]; omega
theorem gAt_lt {r : List Bool} {k : Nat} (h : gAt r k = true) : k < r.length := by
  unfold gAt at h
  rw [List.getD_eq_getElem?_getD] at h
  by_cases hk : k < r.length
  · exact hk
  · rw [List.getElem?_eq_none (by omega)] at h; simp at h
theorem cnt_full : ∀ (r : List Bool), cnt r = r.length → ∀ k, k < r.length → gAt r k = true
  | [], _, k, hk => absurd hk (by simp)
  | b :: r, h, k, hk => by
    have hl := cnt_le r
    cases b with
    | false => simp [cnt] at h; omega
    | true =>
      simp [cnt] at h
      cases k with
      | zero => rfl
      | succ k => exact cnt_full r (by omega) k (by simpa using hk)
theorem ext_at {a b : List Bool} (hl : a.length = b.length) (h : ∀ k, k < a.length → gAt a k = gAt b k) : a = b := by
  refine List.ext_getElem hl fun k h1 h2 => ?_
  have e := h k h1
  simpa [gAt, List.getD, h1, h2] using e

/-- What 0 leads to. -/
def Leads (S : Nat → Nat → Bool) (k : Nat) : Prop := ∀ P : Nat → Prop, P 0 → (∀ i m, P i → S i m = true → P m) → P k
theorem leads_zero (S : Nat → Nat → Bool) : Leads S 0 := fun P h0 _ => h0
theorem Leads.next {S : Nat → Nat → Bool} {i m : Nat} (h : Leads S i) (hs : S i m = true) : Leads S m := fun P h0 hn => hn i m (h P h0 hn) hs
def Closed (S : Nat → Nat → Bool) (r : List Bool) : Prop := ∀ i m, gAt r i = true → S i m = true → gAt r m = true
/-- What is reached: ten places, 0 among them, all that they lead to, and nothing else. -/
structure Right (S : Nat → Nat → Bool) (r : List Bool) : Prop where
  len : r.length = 10
  zero : gAt r 0 = true
  leads : ∀ k, gAt r k = true → Leads S k
  closed : Closed S r
theorem Right.one {S : Nat → Nat → Bool} {a b : List Bool} (ha : Right S a) (hb : Right S b) : a = b := by
  refine ext_at (ha.len.trans hb.len.symm) fun k _ => ?_
  have h1 : gAt a k = true → gAt b k = true := fun h => ha.leads k h (fun k => gAt b k = true) hb.zero fun i m => hb.closed i m
  have h2 : gAt b k = true → gAt a k = true := fun h => hb.leads k h (fun k => gAt a k = true) ha.zero fun i m => ha.closed i m
  cases e1 : gAt a k <;> cases e2 : gAt b k <;> simp_all

/-- Ahead of round n of those that mark. -/
structure Round (S : Nat → Nat → Bool) (n : Nat) (r : List Bool) : Prop where
  len : r.length = 10
  zero : gAt r 0 = true
  leads : ∀ k, gAt r k = true → Leads S k
  many : Closed S r ∨ n < cnt r
/-- In the midst of a round, the first i done. -/
structure Mid (S : Nat → Nat → Bool) (r0 : List Bool) (i : Nat) (r : List Bool) : Prop where
  len : r.length = 10
  leads : ∀ k, gAt r k = true → Leads S k
  sub : ∀ k, gAt r0 k = true → gAt r k = true
  done : ∀ j, j < i → gAt r0 j = true → ∀ m, S j m = true → gAt r m = true
  same : Closed S r0 → r = r0
theorem Round.mid {S : Nat → Nat → Bool} {n : Nat} {r : List Bool} (h : Round S n r) : Mid S r 0 r := ⟨h.len, h.leads, fun _ h => h, fun j hj => absurd hj (by omega), fun _ => rfl⟩
theorem Round.next {S : Nat → Nat → Bool} {n : Nat} {r0 r : List Bool} (h0 : Round S n r0) (h : Mid S r0 10 r) : Round S (n + 1) r := by
  refine ⟨h.len, h.sub 0 h0.zero, h.leads, ?_⟩
  rcases h0.many with hc | hc
  · exact Or.inl (by rw [h.same hc]; exact hc)
  · by_cases e : r = r0
    · refine Or.inl fun i m hi hs => ?_
      rw [e] at hi
      exact h.done i (by have := gAt_lt hi; rw [h0.len] at this; exact this) hi m hs
    · have := cnt_lt r0 r (h0.len.trans h.len.symm) h.sub (fun e' => e e'.symm)
      exact Or.inr (by omega)
theorem Round.right {S : Nat → Nat → Bool} {r : List Bool} (h : Round S 10 r) : Right S r :=
  ⟨h.len, h.zero, h.leads, by rcases h.many with hc | hc; exact hc; have := cnt_le r; have := h.len; omega⟩
/-- One more is marked. -/
theorem Mid.mark {S : Nat → Nat → Bool} {r0 r : List Bool} {i m : Nat} (h : Mid S r0 i r) (hi : gAt r i = true) (hs : S i m = true) (hm : m < 10) : Mid S r0 i (r.set m true) := by
  have hl : m < r.length := by rw [h.len]; exact hm
  refine ⟨by rw [List.length_set, h.len], fun k hk => ?_, fun k hk => by rw [gAt_set _ _ _ hl, h.sub k hk]; rfl, fun j hj h0 t ht => by rw [gAt_set _ _ _ hl, h.done j hj h0 t ht]; rfl, fun hc => ?_⟩
  · rw [gAt_set _ _ _ hl] at hk
    cases e : gAt r k with
    | true => exact h.leads k e
    | false =>
      rw [e] at hk
      have : k = m := by simpa using hk
      rw [this]
      exact (h.leads i hi).next hs
  · have e := h.same hc
    have hm1 : gAt r m = true := by rw [e] at hi ⊢; exact hc i m hi hs
    rw [← e]
    refine ext_at (by rw [List.length_set]) fun k _ => ?_
    rw [gAt_set _ _ _ hl]
    by_cases ek : k = m
    · subst ek; rw [hm1]; rfl
    · simp [ek]
theorem Mid.over {S : Nat → Nat → Bool} {r0 r : List Bool} {i : Nat} (h : Mid S r0 i r) (hd : gAt r0 i = true → ∀ m, S i m = true → gAt r m = true) : Mid S r0 (i + 1) r :=
  ⟨h.len, h.leads, h.sub, fun j hj h0 t ht => by by_cases e : j = i; subst e; exact hd h0 t ht; exact h.done j (by omega) h0 t ht, h.same⟩

/-- What is reached, reckoned. -/
def stepR (S : Nat → Nat → Bool) (r : List Bool) : List Bool := (List.range 10).map fun m => gAt r m || (List.range 10).any fun i => gAt r i && S i m
def rounds (S : Nat → Nat → Bool) : Nat → List Bool
  | 0 => true :: List.replicate 9 false
  | n + 1 => stepR S (rounds S n)
def reached (S : Nat → Nat → Bool) : List Bool := rounds S 10
theorem stepR_at (S : Nat → Nat → Bool) (r : List Bool) (k : Nat) (h : k < 10) : gAt (stepR S r) k = (gAt r k || (List.range 10).any fun i => gAt r i && S i k) := by
  unfold stepR
  rw [show ∀ l : List Bool, gAt l k = l.getD k false from fun _ => rfl, List.getD_eq_getElem?_getD, List.getElem?_map, List.getElem?_range h]
  rfl
theorem round_start (S : Nat → Nat → Bool) : Round S 0 (true :: List.replicate 9 false) :=
  ⟨rfl, rfl, fun k hk => by
    cases k with
    | zero => exact leads_zero S
    | succ k => exfalso; unfold gAt at hk; rw [List.getD_cons_succ, List.getD_eq_getElem?_getD, List.getElem?_replicate] at hk; split at hk <;> simp at hk, Or.inr (by decide)⟩
theorem stepR_mid {S : Nat → Nat → Bool} {n : Nat} {r : List Bool} (hS : ∀ i m, S i m = true → m < 10) (h : Round S n r) : Mid S r 10 (stepR S r) := by
  have hlen : (stepR S r).length = 10 := by simp [stepR]
  refine ⟨hlen, fun k hk => ?_, fun k hk => ?_, fun j hj h0 m hm => ?_, fun hc => ?_⟩
  · have hk10 : k < 10 := by have := gAt_lt hk; omega
    rw [stepR_at S r k hk10] at hk
    cases e : gAt r k with
    | true => exact h.leads k e
    | false =>
      rw [e, Bool.false_or, List.any_eq_true] at hk
      obtain ⟨i, _, hi⟩ := hk
      rw [Bool.and_eq_true] at hi
      exact (h.leads i hi.1).next hi.2
  · have hk10 : k < 10 := by have := gAt_lt hk; have := h.len; omega
    rw [stepR_at S r k hk10, hk]; rfl
  · rw [stepR_at S r m (hS j m hm)]
    have : ((List.range 10).any fun i => gAt r i && S i m) = true := List.any_eq_true.2 ⟨j, List.mem_range.2 hj, by rw [h0, hm]; rfl⟩
    rw [this, Bool.or_true]
  · refine ext_at (hlen.trans h.len.symm) fun k hk => ?_
    rw [stepR_at S r k (by omega)]
    cases e : gAt r k with
    | true => rfl
    | false =>
      rw [Bool.false_or]
      refine Bool.eq_false_iff.2 fun ha => ?_
      obtain ⟨i, _, hi⟩ := List.any_eq_true.1 ha
      rw [Bool.and_eq_true] at hi
      rw [hc i k hi.1 hi.2] at e
      exact absurd e (by simp)
theorem rounds_round {S : Nat → Nat → Bool} (hS : ∀ i m, S i m = true → m < 10) : ∀ n, Round S n (rounds S n)
  | 0 => round_start S
  | n + 1 => (rounds_round hS n).next (stepR_mid hS (rounds_round hS n))
theorem reached_right {S : Nat → Nat → Bool} (hS : ∀ i m, S i m = true → m < 10) : Right S (reached S) := (rounds_round hS 10).right

/-- What a visit leaves: whatever it marks is led to, and all that it leads to is marked. -/
structure Visited (S : Nat → Nat → Bool) (i : Nat) (r r' : List Bool) : Prop where
  len : r'.length = 10
  here : gAt r' i = true
  sub : ∀ k, gAt r k = true → gAt r' k = true
  leads : ∀ k, gAt r' k = true → gAt r k = true ∨ Leads S k
  closed : ∀ k, gAt r' k = true → gAt r k = true ∨ ∀ m, S k m = true → gAt r' m = true
/-- In the midst of a visit: what was asked of (D) is marked. -/
structure Visit (S : Nat → Nat → Bool) (i : Nat) (D : Nat → Prop) (r r' : List Bool) : Prop where
  len : r'.length = 10
  here : gAt r' i = true
  sub : ∀ k, gAt r k = true → gAt r' k = true
  leads : ∀ k, gAt r' k = true → gAt r k = true ∨ Leads S k
  closed : ∀ k, gAt r' k = true → k ≠ i → gAt r k = true ∨ ∀ m, S k m = true → gAt r' m = true
  asked : ∀ m, D m → S i m = true → gAt r' m = true
theorem visit_start {S : Nat → Nat → Bool} {i : Nat} {r : List Bool} (hl : r.length = 10) (hi : i < 10) (hL : Leads S i) : Visit S i (fun _ => False) r (r.set i true) := by
  have h := gAt_set r i
  have hi' : i < r.length := by omega
  refine ⟨by rw [List.length_set, hl], by rw [h _ hi']; simp, fun k hk => by rw [h _ hi', hk]; rfl, fun k hk => ?_, fun k hk hne => ?_, fun _ h _ => h.elim⟩
  · rw [h _ hi'] at hk
    cases e : gAt r k with
    | true => exact Or.inl rfl
    | false => rw [e] at hk; have : k = i := by simpa using hk
               rw [this]; exact Or.inr hL
  · rw [h _ hi'] at hk
    left
    simpa [hne] using hk
theorem Visit.into {S : Nat → Nat → Bool} {i m : Nat} {D : Nat → Prop} {r r1 r2 : List Bool} (h : Visit S i D r r1) (h2 : Visited S m r1 r2) : Visit S i (fun x => D x ∨ x = m) r r2 := by
  refine ⟨h2.len, h2.sub _ h.here, fun k hk => h2.sub k (h.sub k hk), fun k hk => ?_, fun k hk hne => ?_, fun x hx hs => ?_⟩
  · rcases h2.leads k hk with e | e
    · exact h.leads k e
    · exact Or.inr e
  · rcases h2.closed k hk with e | e
    · rcases h.closed k e hne with e | e
      · exact Or.inl e
      · exact Or.inr fun m hm => h2.sub m (e m hm)
    · exact Or.inr e
  · rcases hx with hx | hx
    · exact h2.sub x (h.asked x hx hs)
    · rw [hx]; exact h2.here
theorem Visit.pass {S : Nat → Nat → Bool} {i m : Nat} {D : Nat → Prop} {r r1 : List Bool} (h : Visit S i D r r1) (hm : S i m = true → gAt r1 m = true) : Visit S i (fun x => D x ∨ x = m) r r1 :=
  ⟨h.len, h.here, h.sub, h.leads, h.closed, fun x hx hs => by rcases hx with hx | hx; exact h.asked x hx hs; subst hx; exact hm hs⟩
theorem Visit.done {S : Nat → Nat → Bool} {i : Nat} {D : Nat → Prop} {r r1 : List Bool} (h : Visit S i D r r1) (hD : ∀ m, S i m = true → D m) : Visited S i r r1 :=
  ⟨h.len, h.here, h.sub, h.leads, fun k hk => by
    by_cases e : k = i
    · subst e; exact Or.inr fun m hm => h.asked m (hD m hm) hm
    · exact h.closed k hk e⟩
theorem Visited.right {S : Nat → Nat → Bool} {r' : List Bool} (h : Visited S 0 (List.replicate 10 false) r') : Right S r' := by
  have h0 : ∀ k, gAt (List.replicate 10 false) k = false := fun k => by unfold gAt; rw [List.getD_eq_getElem?_getD, List.getElem?_replicate]; split <;> rfl
  refine ⟨h.len, h.here, fun k hk => ?_, fun i m hi hs => ?_⟩
  · rcases h.leads k hk with e | e
    · rw [h0] at e; exact absurd e (by simp)
    · exact e
  · rcases h.closed i hi with e | e
    · rw [h0] at e; exact absurd e (by simp)
    · exact e m hs
end Go.Proofs.YtbdljoldblpffaaGreat
namespace Go.Proofs.YtbdljoldblpffaaGreat
open Go.RowKit
set_option linter.unusedVariables false
set_option maxRecDepth 100000

def blcells (xs : List Bool) : List Value := xs.map Value.bool
theorem blcells_length (xs : List Bool) : (blcells xs).length = xs.length := by simp [blcells]
/-- A slice of Bools that reads as 'xs'. -/
def IsBools (w : World) (v : Value) (xs : List Bool) : Prop :=
  ∃ (a : Option Addr) (cap : Nat), v = .slice a xs.length cap ∧ xs.length ≤ cap ∧ ∀ i, i < xs.length → ∃ p, a = some p ∧ w.cell? (p.add i) = some (.bool (xs.getD i false))
theorem IsBools.on {w w' : World} {v : Value} {xs : List Bool} (h : IsBools w v xs) (hb : Below w.heap.size w w') : IsBools w' v xs := by
  obtain ⟨a, cap, hv, hc, hx⟩ := h
  exact ⟨a, cap, hv, hc, fun i hi => by obtain ⟨p, hp, hq⟩ := hx i hi; exact ⟨p, hp, (hb.cell (World.block_lt_of_cell? w _ hq)).trans hq⟩⟩
def BolIn (w : World) (g : Nat) (xs : List Bool) : Prop := w.heap[g]? = some (.cells (blcells xs).toArray 4 (0, 0))
theorem BolIn.cell {w : World} {g : Nat} {xs : List Bool} (h : BolIn w g xs) (i : Nat) (hi : i < xs.length) : w.cell? ⟨g, i, none⟩ = some (.bool (xs.getD i false)) := by
  unfold BolIn at h
  simp only [World.cell?, h, List.getElem?_toArray]
  simp [blcells, List.getD, hi]
theorem BolIn.free {w : World} {g : Nat} {xs : List Bool} (h : BolIn w g xs) (i : Nat) : w.frozen? ⟨g, i, none⟩ = false := by
  unfold BolIn at h
  simp [World.frozen?, h]
theorem BolIn.set {w : World} {g : Nat} {xs : List Bool} (h : BolIn w g xs) (i : Nat) (b : Bool) : BolIn (w.setCell ⟨g, i, none⟩ (.bool b)) g (xs.set i b) := by
  have e := heap_setCell_same w g i _ 4 (.bool b) h
  unfold BolIn
  rw [e]
  simp [blcells, List.map_set]
theorem BolIn.on {w w' : World} {g : Nat} {xs : List Bool} (h : BolIn w g xs) (hb : Below w.heap.size w w') : BolIn w' g xs := keep h hb
theorem BolIn.bools {w : World} {g : Nat} {xs : List Bool} (h : BolIn w g xs) (n cap : Nat) (hn : n = xs.length) (hc : n ≤ cap) : IsBools w (.slice (some ⟨g, 0, none⟩) n cap) xs :=
  ⟨_, _, by rw [hn], by rw [← hn]; exact hc, fun i hi => ⟨_, rfl, by rw [add_head]; exact h.cell i hi⟩⟩
theorem info4 : (Tryz.prog.info? 4).map (fun i => (i.zero, i.size, i.bytes)) = some (some (.bool false), 1, 1) := by kernel_rfl
theorem made_bools (n : Nat) : (madeCells #[Value.bool false] n).toList = blcells (List.replicate n false) := by
  induction n with
  | zero => simp [madeCells, blcells]
  | succ n ih =>
    have h1 : (madeCells #[Value.bool false] (n + 1)).toList = (madeCells #[Value.bool false] n).toList ++ [.bool false] := by
      unfold madeCells
      simp [Array.range_succ, Nat.mod_one]
    rw [h1, ih, List.replicate_succ']
    simp [blcells]
theorem make_bools (n : Nat) (h : n ≤ 4398046511104) (w : World) :
    (Instr.makeSlice 66 (.int .i64 (n : Int)) (.int .i64 (n : Int))).run Tryz.prog w = .ok (.slice (some ⟨w.heap.size, 0, none⟩) n n) (w.alloc (.cells (blcells (List.replicate n false)).toArray 4 (0, 0))) := by
  obtain ⟨i, hi, hzz⟩ := Option.map_eq_some_iff.1 info4
  simp only [Prod.mk.injEq] at hzz
  obtain ⟨hz, hs, hb⟩ := hzz
  have hr := run_make (P := Tryz.prog) w 66 4 i _ Tryz.underlying66 hi hz .i64 .i64 n n (by omega) (Int.le_refl _) (by rw [hb]; omega) (by omega)
  simp only [Int.toNat_natCast, hs, Nat.mul_one] at hr
  have h2 : madeCells (Value.bool false).cells n = (blcells (List.replicate n false)).toArray := by
    apply Array.toList_inj.1
    exact made_bools n
  rw [h2] at hr
  exact hr
def upB (k : Int) (n : Nat) : List Bool := (List.range n).map fun (i : Nat) => thirdB (k + (i : Int))
theorem upB_length (k : Int) (n : Nat) : (upB k n).length = n := by simp [upB]
theorem upB_getD (k : Int) (n i : Nat) (h : i < n) : (upB k n).getD i false = thirdB (k + (i : Int)) := by simp [upB, List.getD, h]
def markBo (xs : List Bool) (k0 : Int) (k : Nat) : List Bool := upB k0 k ++ xs.drop k
theorem markBo_start (xs : List Bool) (k0 : Int) : markBo xs k0 0 = xs := by simp [markBo, upB]
theorem markBo_end (xs : List Bool) (k0 : Int) : markBo xs k0 xs.length = upB k0 xs.length := by simp [markBo]
theorem markBo_length (xs : List Bool) (k0 : Int) (k : Nat) (h : k ≤ xs.length) : (markBo xs k0 k).length = xs.length := by simp [markBo, upB]; omega
theorem markBo_set (xs : List Bool) (k0 : Int) (k : Nat) (h : k < xs.length) : (markBo xs k0 k).set k (thirdB (k0 + (k : Int))) = markBo xs k0 (k + 1) := by
  unfold markBo
  have e : upB k0 (k + 1) = upB k0 k ++ [thirdB (k0 + (k : Int))] := by simp [upB, List.range_succ]
  rw [List.set_append_right _ _ (by rw [upB_length]; exact Nat.le_refl _), upB_length, Nat.sub_self, e, List.append_assoc, List.drop_eq_getElem_cons h, List.set_cons_zero]
  rfl
end Go.Proofs.YtbdljoldblpffaaGreat
namespace Go.Proofs.YtbdljoldblpffaaGreat
open Go.RowKit
set_option linter.unusedVariables false
set_option maxRecDepth 100000

def expB (o : Ob) (now : Int) : Bool := (o.kind == 0) || decide (o.unt < now)
theorem implExp_any (x : Ob) (l d m : Value) (now : Int) (w : World) :
    Calls Tryz.prog 73 #[obV x l d m, .int .i64 now] w fun e w' => e = .returned (.bool (expB x now)) ∧ Below w.heap.size w w' := by
  by_cases hk : x.kind = 0
  · have e : expB x now = true := by unfold expB; rw [hk]; rfl
    have qk : (x.kind == 0) = true := beq_iff_eq.2 hk
    rw [e]
    clear e hk
    go_enter Tryz.func73, Tryz.ntmps73
    go_wp2
    go_ret
    exact ⟨rfl, by go_grown⟩
  · have e : expB x now = decide (x.unt < now) := by unfold expB; rw [beq_eq_false_iff_ne.2 hk]; simp
    have qk : (x.kind == 0) = false := beq_eq_false_iff_ne.2 hk
    rw [e]
    clear e hk
    go_enter Tryz.func73, Tryz.ntmps73
    go_wp2
    go_ret
    exact ⟨rfl, by go_grown⟩
theorem specExp_any (x : Ob) (l d m : Value) (now : Int) (w : World) :
    Calls Tryz.prog 39 #[obV x l d m, .int .i64 now] w fun e w' => e = .returned (.bool (expB x now)) ∧ Below w.heap.size w w' := by
  by_cases hk : x.kind = 0
  · have e : expB x now = true := by unfold expB; rw [hk]; rfl
    have qk : (x.kind == 0) = true := beq_iff_eq.2 hk
    rw [e]
    clear e hk
    go_enter Tryz.func39, Tryz.ntmps39
    go_wp2
    go_ret
    exact ⟨rfl, by go_grown⟩
  · have e : expB x now = decide (x.unt < now) := by unfold expB; rw [beq_eq_false_iff_ne.2 hk]; simp
    have qk : (x.kind == 0) = false := beq_eq_false_iff_ne.2 hk
    rw [e]
    clear e hk
    go_enter Tryz.func39, Tryz.ntmps39
    go_wp2
    go_ret
    exact ⟨rfl, by go_grown⟩
end Go.Proofs.YtbdljoldblpffaaGreat
