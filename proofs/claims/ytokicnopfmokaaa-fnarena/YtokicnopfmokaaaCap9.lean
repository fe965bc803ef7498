/-
  Has a thing run out? Lists of Bools: made, held against each other, marked, and found so. What is reached: two ways to reckon it come to the same. What a visit marks: the program's function that calls itself. What is reached: the program. What is reached, and what is not: the program. What is reached: the model. Is a handle good? The program's and the model's answer.
-/
import Derived.Test.YtokicnopfmokaaaArT
import Derived.Test.YtokicnopfmokaaaMarkA
import Derived.Test.YtokicnopfmokaaaTree
import Derived.Test.YtokicnopfmokaaaEdge9
import Derived.Test.YtokicnopfmokaaaLead
import Derived.Test.YtokicnopfmokaaaArOkI
import Derived.Test.YtokicnopfmokaaaPut9
import Derived.Test.YtokicnopfmokaaaHandI
import Derived.Test.YtokicnopfmokaaaHand
namespace Go.Proofs.Ytokicnopfmokaaa
open Go.RowKit
set_option linter.unusedVariables false
set_option maxRecDepth 100000

def expB (o : Ob) (now : Int) : Bool := (o.kind == 0) || decide (o.unt < now)
theorem implExp_any (x : Ob) (l d m : Value) (now : Int) (w : World) :
    Calls Try.prog 51 #[obV x l d m, .int .i64 now] w fun e w' => e = .returned (.bool (expB x now)) ∧ Below w.heap.size w w' := by
  by_cases hk : x.kind = 0
  · have e : expB x now = true := by unfold expB; rw [hk]; rfl
    have qk : (x.kind == 0) = true := beq_iff_eq.2 hk
    rw [e]
    clear e hk
    go_enter Try.func51, Try.ntmps51
    go_wp2
    go_ret
    exact ⟨rfl, by go_grown⟩
  · have e : expB x now = decide (x.unt < now) := by unfold expB; rw [beq_eq_false_iff_ne.2 hk]; simp
    have qk : (x.kind == 0) = false := beq_eq_false_iff_ne.2 hk
    rw [e]
    clear e hk
    go_enter Try.func51, Try.ntmps51
    go_wp2
    go_ret
    exact ⟨rfl, by go_grown⟩
end Go.Proofs.Ytokicnopfmokaaa
namespace Go.Proofs.Ytokicnopfmokaaa
open Go.RowKit
set_option linter.unusedVariables false
set_option maxRecDepth 100000

def blcells (xs : List Bool) : List Value := xs.map Value.bool
theorem blcells_length (xs : List Bool) : (blcells xs).length = xs.length := by simp [blcells]
/-- A slice of Bools that reads as 'xs'. -/
def IsBools (w : World) (v : Value) (xs : List Bool) : Prop :=
  ∃ (a : Option Addr) (cap : Nat), v = .slice a xs.length cap ∧ xs.length ≤ cap ∧ ∀ i, i < xs.length → ∃ p, a = some p ∧ w.cell? (p.add i) = some (.bool (xs.getD i false))
theorem IsBools.on {w w' : World} {v : Value} {xs : List Bool} (h : IsBools w v xs) (hb : Below w.heap.size w w') : IsBools w' v xs := by
  obtain ⟨a, cap, hv, hc, hx⟩ := h
  exact ⟨a, cap, hv, hc, fun i hi => by obtain ⟨p, hp, hq⟩ := hx i hi; exact ⟨p, hp, (hb.cell (World.block_lt_of_cell? w _ hq)).trans hq⟩⟩
def BolIn (w : World) (g : Nat) (xs : List Bool) : Prop := w.heap[g]? = some (.cells (blcells xs).toArray 4 (0, 0))
theorem BolIn.cell {w : World} {g : Nat} {xs : List Bool} (h : BolIn w g xs) (i : Nat) (hi : i < xs.length) : w.cell? ⟨g, i, none⟩ = some (.bool (xs.getD i false)) := by
  unfold BolIn at h
  simp only [World.cell?, h, List.getElem?_toArray]
  simp [blcells, List.getD, hi]
theorem BolIn.free {w : World} {g : Nat} {xs : List Bool} (h : BolIn w g xs) (i : Nat) : w.frozen? ⟨g, i, none⟩ = false := by
  unfold BolIn at h
  simp [World.frozen?, h]
theorem BolIn.set {w : World} {g : Nat} {xs : List Bool} (h : BolIn w g xs) (i : Nat) (b : Bool) : BolIn (w.setCell ⟨g, i, none⟩ (.bool b)) g (xs.set i b) := by
  have e := heap_setCell_same w g i _ 4 (.bool b) h
  unfold BolIn
  rw [e]
  simp [blcells, List.map_set]
theorem BolIn.on {w w' : World} {g : Nat} {xs : List Bool} (h : BolIn w g xs) (hb : Below w.heap.size w w') : BolIn w' g xs := keep h hb
theorem BolIn.bools {w : World} {g : Nat} {xs : List Bool} (h : BolIn w g xs) (n cap : Nat) (hn : n = xs.length) (hc : n ≤ cap) : IsBools w (.slice (some ⟨g, 0, none⟩) n cap) xs :=
  ⟨_, _, by rw [hn], by rw [← hn]; exact hc, fun i hi => ⟨_, rfl, by rw [add_head]; exact h.cell i hi⟩⟩
theorem info4 : (Try.prog.info? 4).map (fun i => (i.zero, i.size, i.bytes)) = some (some (.bool false), 1, 1) := by kernel_rfl
theorem made_bools (n : Nat) : (madeCells #[Value.bool false] n).toList = blcells (List.replicate n false) := by
  induction n with
  | zero => simp [madeCells, blcells]
  | succ n ih =>
    have h1 : (madeCells #[Value.bool false] (n + 1)).toList = (madeCells #[Value.bool false] n).toList ++ [.bool false] := by
      unfold madeCells
      simp [Array.range_succ, Nat.mod_one]
    rw [h1, ih, List.replicate_succ']
    simp [blcells]
theorem make_bools (n : Nat) (h : n ≤ 4398046511104) (w : World) :
    (Instr.makeSlice 56 (.int .i64 (n : Int)) (.int .i64 (n : Int))).run Try.prog w = .ok (.slice (some ⟨w.heap.size, 0, none⟩) n n) (w.alloc (.cells (blcells (List.replicate n false)).toArray 4 (0, 0))) := by
  obtain ⟨i, hi, hzz⟩ := Option.map_eq_some_iff.1 info4
  simp only [Prod.mk.injEq] at hzz
  obtain ⟨hz, hs, hb⟩ := hzz
  have hr := run_make (P := Try.prog) w 56 4 i _ Try.underlying56 hi hz .i64 .i64 n n (by omega) (Int.le_refl _) (by rw [hb]; omega) (by omega)
  simp only [Int.toNat_natCast, hs, Nat.mul_one] at hr
  have h2 : madeCells (Value.bool false).cells n = (blcells (List.replicate n false)).toArray := by
    apply Array.toList_inj.1
    exact made_bools n
  rw [h2] at hr
  exact hr
def upB (k : Int) (n : Nat) : List Bool := (List.range n).map fun (i : Nat) => thirdB (k + (i : Int))
theorem upB_length (k : Int) (n : Nat) : (upB k n).length = n := by simp [upB]
theorem upB_getD (k : Int) (n i : Nat) (h : i < n) : (upB k n).getD i false = thirdB (k + (i : Int)) := by simp [upB, List.getD, h]
def markBo (xs : List Bool) (k0 : Int) (k : Nat) : List Bool := upB k0 k ++ xs.drop k
theorem markBo_start (xs : List Bool) (k0 : Int) : markBo xs k0 0 = xs := by simp [markBo, upB]
theorem markBo_end (xs : List Bool) (k0 : Int) : markBo xs k0 xs.length = upB k0 xs.length := by simp [markBo]
theorem markBo_length (xs : List Bool) (k0 : Int) (k : Nat) (h : k ≤ xs.length) : (markBo xs k0 k).length = xs.length := by simp [markBo, upB]; omega
theorem markBo_set (xs : List Bool) (k0 : Int) (k : Nat) (h : k < xs.length) : (markBo xs k0 k).set k (thirdB (k0 + (k : Int))) = markBo xs k0 (k + 1) := by
  unfold markBo
  have e : upB k0 (k + 1) = upB k0 k ++ [thirdB (k0 + (k : Int))] := by simp [upB, List.range_succ]
  rw [List.set_append_right _ _ (by rw [upB_length]; exact Nat.le_refl _), upB_length, Nat.sub_self, e, List.append_assoc, List.drop_eq_getElem_cons h, List.set_cons_zero]
  rfl
end Go.Proofs.Ytokicnopfmokaaa
namespace Go.Proofs.Ytokicnopfmokaaa
open Go.RowKit
set_option linter.unusedVariables false
set_option maxRecDepth 100000

def gAt (r : List Bool) (k : Nat) : Bool := r.getD k false
def cnt : List Bool → Nat
  | [] => 0
  | b :: l => (if b = true then 1 else 0) + cnt l
theorem cnt_le : ∀ l : List Bool, cnt l ≤ l.length
  | [] => Nat.le_refl _
  | b :: l => by have := cnt_le l; cases b <;> simp [cnt] <;> omega
theorem cnt_mono : ∀ a b : List Bool, a.length = b.length → (∀ k, gAt a k = true → gAt b k = true) → cnt a ≤ cnt b
  | [], [], _, _ => Nat.le_refl _
  | x :: a, y :: b, h, hs => by
    have ih := cnt_mono a b (by simpa using h) fun k hk => by have := hs (k + 1); simpa [gAt] using this (by simpa [gAt] using hk)
    have h0 : x = true → y = true := fun hx => by have := hs 0; simpa [gAt] using this (by simpa [gAt] using hx)
    cases x <;> cases y <;> simp [cnt] at h0 ⊢ <;> omega
theorem cnt_lt : ∀ a b : List Bool, a.length = b.length → (∀ k, gAt a k = true → gAt b k = true) → a ≠ b → cnt a < cnt b
  | [], [], _, _, hne => absurd rfl hne
  | x :: a, y :: b, h, hs, hne => by
    have hs' : ∀ k, gAt a k = true → gAt b k = true := fun k hk => by have := hs (k + 1); simpa [gAt] using this (by simpa [gAt] using hk)
    have hl : a.length = b.length := by simpa using h
    have h0 : x = true → y = true := fun hx => by have := hs 0; simpa [gAt] using this (by simpa [gAt] using hx)
    have im := cnt_mono a b hl hs'
    by_cases hab : a = b
    · subst hab
      cases x <;> cases y <;> simp [cnt] at h0 hne ⊢
    · have ih := cnt_lt a b hl hs' hab
      cases x <;> cases y <;> simp [cnt] at h0 ⊢ <;> omega
theorem gAt_set (r : List Bool) (i k : Nat) (h : i < r.length) : gAt (r.set i true) k = (gAt r k || decide (k = i)) := by
  unfold gAt
  rw [List.getD_eq_getElem?_getD, List.getElem?_set]
  by_cases e : i = k
  · subst e; simp [h]
  · rw [if_neg e, List.getD_eq_getElem?_getD]; simp [show ¬ k = i from fun h => e h.symm]
theorem cnt_set : ∀ (r : List Bool) (i : Nat), i < r.length → gAt r i = false → cnt (r.set i true) = cnt r + 1
  | [], _, h, _ => absurd h (by simp)
  | b :: r, 0, _, h0 => by
    have e : b = false := by simpa [gAt] using h0
    subst e; simp [cnt]; omega
  | b :: r, i + 1, h, h0 => by
    have ih := cnt_set r i (by simpa using h) (by simpa [gAt] using h0)
    simp [cnt, ih]; omega
theorem gAt_lt {r : List Bool} {k : Nat} (h : gAt r k = true) : k < r.length := by
  unfold gAt at h
  rw [List.getD_eq_getElem?_getD] at h
  by_cases hk : k < r.length
  · exact hk
  · rw [List.getElem?_eq_none (by omega)] at h; simp at h
theorem cnt_full : ∀ (r : List Bool), cnt r = r.length → ∀ k, k < r.length → gAt r k = true
  | [], _, k, hk => absurd hk (by simp)
  | b :: r, h, k, hk => by
    have hl := cnt_le r
    cases b with
    | false => simp [cnt] at h; omega
    | true =>
      simp [cnt] at h
      cases k with
      | zero => rfl
      | succ k => exact cnt_full r (by omega) k (by simpa using hk)
theorem ext_at {a b : List Bool} (hl : a.length = b.length) (h : ∀ k, k < a.length → gAt a k = gAt b k) : a = b := by
  refine List.ext_getElem hl fun k h1 h2 => ?_
  have e := h k h1
  simpa [gAt, List.getD, h1, h2] using e

/-- What 0 leads to. -/
def Leads (S : Nat → Nat → Bool) (k : Nat) : Prop := ∀ P : Nat → Prop, P 0 → (∀ i m, P i → S i m = true → P m) → P k
theorem leads_zero (S : Nat → Nat → Bool) : Leads S 0 := fun P h0 _ => h0
theorem Leads.next {S : Nat → Nat → Bool} {i m : Nat} (h : Leads S i) (hs : S i m = true) : Leads S m := fun P h0 hn => hn i m (h P h0 hn) hs
def Closed (S : Nat → Nat → Bool) (r : List Bool) : Prop := ∀ i m, gAt r i = true → S i m = true → gAt r m = true
/-- What is reached: ten places, 0 among them, all that they lead to, and nothing else. -/
structure Right (S : Nat → Nat → Bool) (r : List Bool) : Prop where
  len : r.length = 10
  zero : gAt r 0 = true
  leads : ∀ k, gAt r k = true → Leads S k
  closed : Closed S r
theorem Right.one {S : Nat → Nat → Bool} {a b : List Bool} (ha : Right S a) (hb : Right S b) : a = b := by
  refine ext_at (ha.len.trans hb.len.symm) fun k _ => ?_
  have h1 : gAt a k = true → gAt b k = true := fun h => ha.leads k h (fun k => gAt b k = true) hb.zero fun i m => hb.closed i m
  have h2 : gAt b k = true → gAt a k = true := fun h => hb.leads k h (fun k => gAt a k = true) ha.zero fun i m => ha.closed i m
  cases e1 : gAt a k <;> cases e2 : gAt b k <;> simp_all

/-- Ahead of round n of those that mark. -/
structure Round (S : Nat → Nat → Bool) (n : Nat) (r : List Bool) : Prop where
  len : r.length = 10
  zero : gAt r 0 = true
  leads : ∀ k, gAt r k = true → Leads S k
  many : Closed S r ∨ n < cnt r
/-- In the midst of a round, the first i done. -/
structure Mid (S : Nat → Nat → Bool) (r0 : List Bool) (i : Nat) (r : List Bool) : Prop where
  len : r.length = 10
  leads : ∀ k, gAt r k = true → Leads S k
  sub : ∀ k, gAt r0 k = true → gAt r k = true
  done : ∀ j, j < i → gAt r0 j = true → ∀ m, S j m = true → gAt r m = true
  same : Closed S r0 → r = r0
theorem Round.mid {S : Nat → Nat → Bool} {n : Nat} {r : List Bool} (h : Round S n r) : Mid S r 0 r := ⟨h.len, h.leads, fun _ h => h, fun j hj => absurd hj (by omega), fun _ => rfl⟩
theorem Round.next {S : Nat → Nat → Bool} {n : Nat} {r0 r : List Bool} (h0 : Round S n r0) (h : Mid S r0 10 r) : Round S (n + 1) r := by
  refine ⟨h.len, h.sub 0 h0.zero, h.leads, ?_⟩
  rcases h0.many with hc | hc
  · exact Or.inl (by rw [h.same hc]; exact hc)
  · by_cases e : r = r0
    · refine Or.inl fun i m hi hs => ?_
      rw [e] at hi
      exact h.done i (by have := gAt_lt hi; rw [h0.len] at this; exact this) hi m hs
    · have := cnt_lt r0 r (h0.len.trans h.len.symm) h.sub (fun e' => e e'.symm)
      exact Or.inr (by omega)
theorem Round.right {S : Nat → Nat → Bool} {r : List Bool} (h : Round S 10 r) : Right S r :=
  ⟨h.len, h.zero, h.leads, by rcases h.many with hc | hc; exact hc; have := cnt_le r; have := h.len; omega⟩
/-- One more is marked. -/
theorem Mid.mark {S : Nat → Nat → Bool} {r0 r : List Bool} {i m : Nat} (h : Mid S r0 i r) (hi : gAt r i = true) (hs : S i m = true) (hm : m < 10) : Mid S r0 i (r.set m true) := by
  have hl : m < r.length := by rw [h.len]; exact hm
  refine ⟨by rw [List.length_set, h.len], fun k hk => ?_, fun k hk => by rw [gAt_set _ _ _ hl, h.sub k hk]; rfl, fun j hj h0 t ht => by rw [gAt_set _ _ _ hl, h.done j hj h0 t ht]; rfl, fun hc => ?_⟩
  · rw [gAt_set _ _ _ hl] at hk
    cases e : gAt r k with
    | true => exact h.leads k e
    | false =>
      rw [e] at hk
      have : k = m := by simpa using hk
      rw [this]
      exact (h.leads i hi).next hs
  · have e := h.same hc
    have hm1 : gAt r m = true := by rw [e] at hi ⊢; exact hc i m hi hs
    rw [← e]
    refine ext_at (by rw [List.length_set]) fun k _ => ?_
    rw [gAt_set _ _ _ hl]
    by_cases ek : k = m
    · subst ek; rw [hm1]; rfl
    · simp [ek]
theorem Mid.over {S : Nat → Nat → Bool} {r0 r : List Bool} {i : Nat} (h : Mid S r0 i r) (hd : gAt r0 i = true → ∀ m, S i m = true → gAt r m = true) : Mid S r0 (i + 1) r :=
  ⟨h.len, h.leads, h.sub, fun j hj h0 t ht => by by_cases e : j = i; subst e; exact hd h0 t ht; exact h.done j (by omega) h0 t ht, h.same⟩

/-- What is reached, reckoned. -/
def stepR (S : Nat → Nat → Bool) (r : List Bool) : List Bool := (List.range 10).map fun m => gAt r m || (List.range 10).any fun i => gAt r i && S i m
def rounds (S : Nat → Nat → Bool) : Nat → List Bool
  | 0 => true :: List.replicate 9 false
  | n + 1 => stepR S (rounds S n)
def reached (S : Nat → Nat → Bool) : List Bool := rounds S 10
theorem stepR_at (S : Nat → Nat → Bool) (r : List Bool) (k : Nat) (h : k < 10) : gAt (stepR S r) k = (gAt r k || (List.range 10).any fun i => gAt r i && S i k) := by
  unfold stepR
  rw [show ∀ l : List Bool, gAt l k = l.getD k false from fun _ => rfl, List.getD_eq_getElem?_getD, List.getElem?_map, List.getElem?_range h]
  rfl
theorem round_start (S : Nat → Nat → Bool) : Round S 0 (true :: List.replicate 9 false) :=
  ⟨rfl, rfl, fun k hk => by
    cases k with
    | zero => exact leads_zero S
    | succ k => exfalso; unfold gAt at hk; rw [List.getD_cons_succ, List.getD_eq_getElem?_getD, List.getElem?_replicate] at hk; split at hk <;> simp at hk, Or.inr (by decide)⟩
theorem stepR_mid {S : Nat → Nat → Bool} {n : Nat} {r : List Bool} (hS : ∀ i m, S i m = true → m < 10) (h : Round S n r) : Mid S r 10 (stepR S r) := by
  have hlen : (stepR S r).length = 10 := by simp [stepR]
  refine ⟨hlen, fun k hk => ?_, fun k hk => ?_, fun j hj h0 m hm => ?_, fun hc => ?_⟩
  · have hk10 : k < 10 := by have := gAt_lt hk; omega
    rw [stepR_at S r k hk10] at hk
    cases e : gAt r k with
    | true => exact h.leads k e
    | false =>
      rw [e, Bool.false_or, List.any_eq_true] at hk
      obtain ⟨i, _, hi⟩ := hk
      rw [Bool.and_eq_true] at hi
      exact (h.leads i hi.1).next hi.2
  · have hk10 : k < 10 := by have := gAt_lt hk; have := h.len; omega
    rw [stepR_at S r k hk10, hk]; rfl
  · rw [stepR_at S r m (hS j m hm)]
    have : ((List.range 10).any fun i => gAt r i && S i m) = true := List.any_eq_true.2 ⟨j, List.mem_range.2 hj, by rw [h0, hm]; rfl⟩
    rw [this, Bool.or_true]
  · refine ext_at (hlen.trans h.len.symm) fun k hk => ?_
    rw [stepR_at S r k (by omega)]
    cases e : gAt r k with
    | true => rfl
    | false =>
      rw [Bool.false_or]
      refine Bool.eq_false_iff.2 fun ha => ?_
      obtain ⟨i, _, hi⟩ := List.any_eq_true.1 ha
      rw [Bool.and_eq_true] at hi
      rw [hc i k hi.1 hi.2] at e
      exact absurd e (by simp)
theorem rounds_round {S : Nat → Nat → Bool} (hS : ∀ i m, S i m = true → m < 10) : ∀ n, Round S n (rounds S n)
  | 0 => round_start S
  | n + 1 => (rounds_round hS n).next (stepR_mid hS (rounds_round hS n))
theorem reached_right {S : Nat → Nat → Bool} (hS : ∀ i m, S i m = true → m < 10) : Right S (reached S) := (rounds_round hS 10).right

/-- What a visit leaves: whatever it marks is led to, and all that it leads to is marked. -/
structure Visited (S : Nat → Nat → Bool) (i : Nat) (r r' : List Bool) : Prop where
  len : r'.length = 10
  here : gAt r' i = true
  sub : ∀ k, gAt r k = true → gAt r' k = true
  leads : ∀ k, gAt r' k = true → gAt r k = true ∨ Leads S k
  closed : ∀ k, gAt r' k = true → gAt r k = true ∨ ∀ m, S k m = true → gAt r' m = true
/-- In the midst of a visit: what was asked of (D) is marked. -/
structure Visit (S : Nat → Nat → Bool) (i : Nat) (D : Nat → Prop) (r r' : List Bool) : Prop where
  len : r'.length = 10
  here : gAt r' i = true
  sub : ∀ k, gAt r k = true → gAt r' k = true
  leads : ∀ k, gAt r' k = true → gAt r k = true ∨ Leads S k
  closed : ∀ k, gAt r' k = true → k ≠ i → gAt r k = true ∨ ∀ m, S k m = true → gAt r' m = true
  asked : ∀ m, D m → S i m = true → gAt r' m = true
theorem visit_start {S : Nat → Nat → Bool} {i : Nat} {r : List Bool} (hl : r.length = 10) (hi : i < 10) (hL : Leads S i) : Visit S i (fun _ => False) r (r.set i true) := by
  have h := gAt_set r i
  have hi' : i < r.length := by omega
  refine ⟨by rw [List.length_set, hl], by rw [h _ hi']; simp, fun k hk => by rw [h _ hi', hk]; rfl, fun k hk => ?_, fun k hk hne => ?_, fun _ h _ => h.elim⟩
  · rw [h _ hi'] at hk
    cases e : gAt r k with
    | true => exact Or.inl rfl
    | false => rw [e] at hk; have : k = i := by simpa using hk
               rw [this]; exact Or.inr hL
  · rw [h _ hi'] at hk
    left
    simpa [hne] using hk
theorem Visit.into {S : Nat → Nat → Bool} {i m : Nat} {D : Nat → Prop} {r r1 r2 : List Bool} (h : Visit S i D r r1) (h2 : Visited S m r1 r2) : Visit S i (fun x => D x ∨ x = m) r r2 := by
  refine ⟨h2.len, h2.sub _ h.here, fun k hk => h2.sub k (h.sub k hk), fun k hk => ?_, fun k hk hne => ?_, fun x hx hs => ?_⟩
  · rcases h2.leads k hk with e | e
    · exact h.leads k e
    · exact Or.inr e
  · rcases h2.closed k hk with e | e
    · rcases h.closed k e hne with e | e
      · exact Or.inl e
      · exact Or.inr fun m hm => h2.sub m (e m hm)
    · exact Or.inr e
  · rcases hx with hx | hx
    · exact h2.sub x (h.asked x hx hs)
    · rw [hx]; exact h2.here
theorem Visit.pass {S : Nat → Nat → Bool} {i m : Nat} {D : Nat → Prop} {r r1 : List Bool} (h : Visit S i D r r1) (hm : S i m = true → gAt r1 m = true) : Visit S i (fun x => D x ∨ x = m) r r1 :=
  ⟨h.len, h.here, h.sub, h.leads, h.closed, fun x hx hs => by rcases hx with hx | hx; exact h.asked x hx hs; subst hx; exact hm hs⟩
theorem Visit.done {S : Nat → Nat → Bool} {i : Nat} {D : Nat → Prop} {r r1 : List Bool} (h : Visit S i D r r1) (hD : ∀ m, S i m = true → D m) : Visited S i r r1 :=
  ⟨h.len, h.here, h.sub, h.leads, fun k hk => by
    by_cases e : k = i
    · subst e; exact Or.inr fun m hm => h.asked m (hD m hm) hm
    · exact h.closed k hk e⟩
theorem Visited.right {S : Nat → Nat → Bool} {r' : List Bool} (h : Visited S 0 (List.replicate 10 false) r') : Right S r' := by
  have h0 : ∀ k, gAt (List.replicate 10 false) k = false := fun k => by unfold gAt; rw [List.getD_eq_getElem?_getD, List.getElem?_replicate]; split <;> rfl
  refine ⟨h.len, h.here, fun k hk => ?_, fun i m hi hs => ?_⟩
  · rcases h.leads k hk with e | e
    · rw [h0] at e; exact absurd e (by simp)
    · exact e
  · rcases h.closed i hi with e | e
    · rw [h0] at e; exact absurd e (by simp)
    · exact e m hs
end Go.Proofs.Ytokicnopfmokaaa
namespace Go.Proofs.Ytokicnopfmokaaa
open Go.RowKit
set_option linter.unusedVariables false
set_option maxRecDepth 100000

/-- Thing i leads to thing m, which is there. -/
def ledB (os : List Ob) (now : Int) (i m : Nat) : Bool := decide (m < 10) && (edgeB os i m && !(expB (obAt os m) now))
theorem ledB_lt {os : List Ob} {now : Int} (i m : Nat) (h : ledB os now i m = true) : m < 10 := by
  unfold ledB at h
  simp only [Bool.and_eq_true, decide_eq_true_eq] at h
  exact h.1
theorem edges_mem {os : List Ob} {i n m : Nat} : (m : Int) ∈ edgesTo os i n ↔ m < n ∧ edgeB os i m = true := by
  unfold edgesTo
  rw [List.mem_map]
  constructor
  · rintro ⟨k, hk, he⟩
    obtain rfl : k = m := by omega
    rw [List.mem_filter, List.mem_range] at hk
    exact hk
  · rintro ⟨h1, h2⟩
    exact ⟨m, by rw [List.mem_filter, List.mem_range]; exact ⟨h1, h2⟩, rfl⟩
theorem edges_at {os : List Ob} {i n k : Nat} (h : k < (edgesTo os i n).length) : ∃ m : Nat, (edgesTo os i n).getD k 0 = (m : Int) ∧ m < n ∧ edgeB os i m = true := by
  have hm : (edgesTo os i n).getD k 0 ∈ edgesTo os i n := all_memI h
  obtain ⟨m, hm2, he⟩ : ∃ m : Nat, (edgesTo os i n).getD k 0 = (m : Int) ∧ (m : Int) ∈ edgesTo os i n := by
    unfold edgesTo at hm
    obtain ⟨m, h1, h2⟩ := List.mem_map.1 hm
    refine ⟨m, h2.symm, ?_⟩
    unfold edgesTo
    exact List.mem_map.2 ⟨m, h1, rfl⟩
  exact ⟨m, hm2, edges_mem.1 he⟩
theorem Visit.less {S : Nat → Nat → Bool} {i : Nat} {D D' : Nat → Prop} {r r1 : List Bool} (h : Visit S i D r r1) (hd : ∀ m, D' m → D m) : Visit S i D' r r1 :=
  ⟨h.len, h.here, h.sub, h.leads, h.closed, fun m hm => h.asked m (hd m hm)⟩
theorem Visit.many {S : Nat → Nat → Bool} {i : Nat} {D : Nat → Prop} {r r1 : List Bool} (h : Visit S i D r r1) (hl : r.length = 10) (h0 : gAt r i = false) : cnt r < cnt r1 :=
  cnt_lt r r1 (hl.trans h.len.symm) h.sub fun e => by have := h.here; rw [← e, h0] at this; exact absurd this (by simp)
abbrev fnV (a b c d : Nat) : Value := .func (.func 49) #[] #[.pointer (some ⟨a, 0, none⟩), .pointer (some ⟨b, 0, none⟩), .pointer (some ⟨c, 0, none⟩), .pointer (some ⟨d, 0, none⟩)]
/-- What the visits share: the arena, the marks in block R, and the boxes of what is captured. -/
structure Vst (w0 : World) (p : Addr) (cap : Nat) (now : Int) (R a b c d : Nat) (r : List Bool) (w : World) : Prop where
  base : Below w0.heap.size w0 w
  low : w0.heap.size ≤ R
  row : BolIn w R r
  ha : w.heap[a]? = some (.cells #[.slice (some ⟨R, 0, none⟩) 10 10] 56 (0, 0))
  hb : w.heap[b]? = some (.cells #[.slice (some p) 10 cap] 24 (0, 0))
  hc : w.heap[c]? = some (.cells #[.int .i64 now] 3 (0, 0))
  hd : w.heap[d]? = some (.cells #[fnV a b c d] 69 (0, 0))
  na : a ≠ R
  nb : b ≠ R
  nc : c ≠ R
  nd : d ≠ R
theorem cell_one {w : World} {b : Nat} {x : Value} {t : TypeId} (h : w.heap[b]? = some (.cells #[x] t (0, 0))) : w.cell? ⟨b, 0, none⟩ = some x := by simp [World.cell?, h]
theorem Vst.on {w0 : World} {p : Addr} {cap : Nat} {now : Int} {R a b c d : Nat} {r : List Bool} {w w' : World} (h : Vst w0 p cap now R a b c d r w) (hb : Below w.heap.size w w') : Vst w0 p cap now R a b c d r w' :=
  ⟨below_more h.base hb, h.low, h.row.on hb, keep h.ha hb, keep h.hb hb, keep h.hc hb, keep h.hd hb, h.na, h.nb, h.nc, h.nd⟩
theorem Vst.mark {w0 : World} {p : Addr} {cap : Nat} {now : Int} {R a b c d : Nat} {r : List Bool} {w : World} (h : Vst w0 p cap now R a b c d r w) (i : Nat) : Vst w0 p cap now R a b c d (r.set i true) (w.setCell ⟨R, i, none⟩ (.bool true)) ∧ Touch [R] w (w.setCell ⟨R, i, none⟩ (.bool true)) :=
  have ht : Touch [R] w (w.setCell ⟨R, i, none⟩ (.bool true)) := touch_one (grownBy_set w R i _) (lt_of_block h.row)
  ⟨⟨ht.below _ _ (by simpa using h.low) h.base, h.low, h.row.set i true, ht.block _ _ (by simpa using h.na) h.ha, ht.block _ _ (by simpa using h.nb) h.hb, ht.block _ _ (by simpa using h.nc) h.hc, ht.block _ _ (by simpa using h.nd) h.hd, h.na, h.nb, h.nc, h.nd⟩, ht⟩
theorem touch_below {R : Nat} {w w' : World} (h : Below w.heap.size w w') (hR : R < w.heap.size) : Touch [R] w w' := ⟨fun k x _ hx => keep hx h, fun B w0 hB hb => hb.trans (h.mono (by have := hB R (by simp); omega))⟩
def Holds8 (x y : Bool) : Prop := x = y
theorem enterV (x : Int) (a b c d : Nat) (w : World) : Sem.run Try.prog (callFunc 49 #[.int .i64 x, .pointer (some ⟨a, 0, none⟩), .pointer (some ⟨b, 0, none⟩), .pointer (some ⟨c, 0, none⟩), .pointer (some ⟨d, 0, none⟩)]) w = .ok (.enter 49 #[.int .i64 x, .pointer (some ⟨a, 0, none⟩), .pointer (some ⟨b, 0, none⟩), .pointer (some ⟨c, 0, none⟩), .pointer (some ⟨d, 0, none⟩)]) w := by rfl
/-- A visit's contract, for n places at most that are not marked yet. -/
def VisitOk (w0 : World) (p : Addr) (cap : Nat) (os : List Ob) (now : Int) (R a b c d n : Nat) : Prop := ∀ (r : List Bool) (i : Nat) (w : World), Vst w0 p cap now R a b c d r w → r.length = 10 → i < 10 → gAt r i = false → Leads (ledB os now) i → 10 ≤ cnt r + n →
  Calls Try.prog 49 #[.int .i64 i, .pointer (some ⟨a, 0, none⟩), .pointer (some ⟨b, 0, none⟩), .pointer (some ⟨c, 0, none⟩), .pointer (some ⟨d, 0, none⟩)] w fun e w' => (∃ u, e = .returned u) ∧ ∃ r', Visited (ledB os now) i r r' ∧ Vst w0 p cap now R a b c d r' w' ∧ Touch [R] w w'
set_option maxRecDepth 100000 in
set_option maxHeartbeats 8000000 in
theorem visit_next (w0 : World) (p : Addr) (cap : Nat) (os : List Ob) (now : Int) (R a b c d n : Nat) (hx : IsArena w0 (.slice (some p) 10 cap) os) (hl : os.length = 10) (hs : ∀ i, (obAt os i).ls.length ≤ 9223372036854775807) (IH : VisitOk w0 p cap os now R a b c d n) : VisitOk w0 p cap os now R a b c d (n + 1) := by
  intro r i w hv hr hi h0 hL hn
  have HX : Hid (∀ w', Below w0.heap.size w0 w' → IsArena w' (.slice (some p) 10 cap) os) := fun w' hb => hx.on hb
  have HIH : Hid (VisitOk w0 p cap os now R a b c d n) := IH
  have HLEN : Hid (os.length = 10) := hl
  have HN : Hid (r.length = 10 ∧ gAt r i = false ∧ 10 ≤ cnt r + (n + 1) ∧ Leads (ledB os now) i) := ⟨hr, h0, hn, hL⟩
  have HE : Hid (∀ w', Below w0.heap.size w0 w' → Calls Try.prog 50 #[.slice (some p) 10 cap, .int .i64 i] w' fun e w'' => IntsAns (edgesTo os i 10) w' e w'') := fun w' hb => by
    have e := implEdgesOf_any _ os i w' (hx.on hb) (by omega) (by omega) (hs i)
    rw [hl] at e
    exact e
  have HCAP : Hid (10 ≤ cap) := by obtain ⟨_, _, hv, h, _⟩ := hx; have e := (Value.slice.inj hv).2.2; show 10 ≤ cap; omega
  have HV0 := hid_of hv
  have HV1 := hid_of (hv.mark i)
  have HS1 : Hid (Visit (ledB os now) i (fun _ => False) r (r.set i true)) := visit_start hr hi hL
  have kA := cell_one hv.ha
  have kR := hv.row.cell i (by rw [hr]; exact hi)
  have fR := hv.row.free i
  have kA2 := cell_one HV1.out.1.ha
  have kB2 := cell_one HV1.out.1.hb
  have HENT : Hid (∀ (x : Int) w', Sem.run Try.prog (callFunc 49 #[.int .i64 x, .pointer (some ⟨a, 0, none⟩), .pointer (some ⟨b, 0, none⟩), .pointer (some ⟨c, 0, none⟩), .pointer (some ⟨d, 0, none⟩)]) w' = .ok (.enter 49 #[.int .i64 x, .pointer (some ⟨a, 0, none⟩), .pointer (some ⟨b, 0, none⟩), .pointer (some ⟨c, 0, none⟩), .pointer (some ⟨d, 0, none⟩)]) w') := fun x w' => enterV x a b c d w'
  have hcap := HCAP.out
  clear hx hl hs IH hv hr h0 hL hn
  go_enter Try.func49, Try.ntmps49
  go_wp2_with fail
  refine (HE.out _ HV1.out.1.base).mono ?_
  rintro e w1 ⟨v1, rfl, ho, hb⟩
  obtain ⟨es, hes⟩ : ∃ es, es = edgesTo os i 10 := ⟨_, rfl⟩
  rw [← hes] at ho
  have HES := hid_of hes
  have HV2 := hid_of (HV1.out.1.on hb)
  have HT2 : Hid (Touch [R] w w1) := HV1.out.2.trans (touch_below hb (lt_of_block HV1.out.1.row))
  have HO := hid_of (show w1.ownsRow w.heap.size 3 1 v1 es.length (icells es) from owns_down ho (by simp))
  have hels : es.length ≤ 10 := by rw [hes]; exact edgesTo_len _ _ _
  obtain ⟨av, cv, rfl⟩ := owns_len ho
  obtain ⟨nl, hnl⟩ : ∃ nl, nl = es.length := ⟨_, rfl⟩
  rw [← hnl] at HO hels ⊢
  have HNL := hid_of hnl
  clear HE kA kR fR kA2 kB2 hes ho hb hnl
  go_wp2
  go_loopw [15] (fun s15 wr => ∃ (k : Nat) (r2 : List Bool), k ≤ nl ∧ s15 = .int .i64 k ∧ Hid (Visit (ledB os now) i (fun m => (m : Int) ∈ es.take k) r r2 ∧ Vst w0 p cap now R a b c d r2 wr ∧ Touch [R] w1 wr)) (fun s15 _ => nl - (intOf s15).toNat)
  case atStart => exact ⟨0, _, Nat.zero_le _, rfl, HS1.out.less (fun m hm => by simp at hm), HV2.out, touch_any _ _⟩
  case round =>
    obtain ⟨k, r2, hk, rfl, hin⟩ := hrel
    clear HS1 HV2
    by_cases hlt : k < nl
    · obtain ⟨m, hm, hm10, hedge⟩ := edges_at (os := os) (i := i) (n := 10) (k := k) (by rw [← HES.out, ← HNL.out]; exact hlt)
      rw [← HES.out] at hm
      obtain ⟨g, cg, rest, hav, hgb, _, _, _, hrow⟩ := rowIn_own (xs := es) (by rw [← HNL.out]; exact HO.out) (by rw [← HNL.out]; omega)
      obtain rfl : av = some ⟨g, 0, none⟩ := by simpa using (Value.slice.inj hav).1
      have hgR : g ≠ R := by have := lt_of_block HV0.out.row; omega
      have hrow2 : RowIn wr g es rest := hin.out.2.2.block _ _ (by simpa using hgR) hrow
      have kE := hrow2.cell k (by rw [← HNL.out]; exact hlt)
      rw [hm] at kE
      obtain ⟨p', q, l, dd, mm, hp, hq, hcs, hu⟩ := (HX.out wr hin.out.2.1.base).at (i := m) (by rw [HLEN.out]; exact hm10)
      obtain rfl : p = p' := by simpa using hp
      have HQ := hid_of hq
      have HA : Hid (∀ wz, Below wr.heap.size wr wz → wz.cell? ⟨a, 0, none⟩ = some (.slice (some ⟨R, 0, none⟩) 10 10)) := fun wz hb => cell_one (keep hin.out.2.1.ha hb)
      have HBX : Hid (∀ wz, Below wr.heap.size wr wz → wz.cell? ⟨b, 0, none⟩ = some (.slice (some p) 10 cap)) := fun wz hb => cell_one (keep hin.out.2.1.hb hb)
      have HCX : Hid (∀ wz, Below wr.heap.size wr wz → wz.cell? ⟨c, 0, none⟩ = some (.int .i64 now)) := fun wz hb => cell_one (keep hin.out.2.1.hc hb)
      have HM : Hid (∀ wz, Below wr.heap.size wr wz → wz.cell? ⟨R, m, none⟩ = some (.bool (gAt r2 m))) := fun wz hb => (hin.out.2.1.row.on hb).cell m (by rw [hin.out.1.len]; exact hm10)
      have HEX : Hid (∀ wz, Calls Try.prog 51 #[obV (obAt os m) l dd mm, .int .i64 now] wz fun e w' => e = .returned (.bool (expB (obAt os m) now)) ∧ Below wz.heap.size wz w') := fun wz => implExp_any _ l dd mm now wz
      have HTK : Hid (es.take (k + 1) = es.take k ++ [(m : Int)]) := by show _ = _; rw [take_oneI (by rw [← HNL.out]; exact hlt), hm]
      have HCS : Hid (ObCells wr q (obAt os m) l dd mm) := hcs
      have HST : Hid (ledB os now i m = !(expB (obAt os m) now)) := by show _ = _; unfold ledB; rw [decide_eq_true hm10, hedge]; rfl
      generalize obAt os m = ob at HEX HCS HST
      generalize expB ob now = x at HEX HST
      have HG := hid_of hin
      have HENTC := HENT.out (m : Int)
      have hmi : (m : Int) < 10 := by omega
      clear hm hedge hav hgb hrow hrow2 hp hq hcs hu hin hgR
      cases hy : (!gAt r2 m && !x) with
      | false =>
        have HL : Hid (∃ (l0 : List Value), (l0 = [.slice (some ⟨R, 0, none⟩) 10 10, .int .i64 m, .pointer (some ⟨R, m, none⟩), .bool true, .bool false, .bool false, undef, undef, undef, undef, undef, undef, undef, .bool false] ∧ Holds8 (gAt r2 m) true) ∨ (l0 = [.slice (some ⟨R, 0, none⟩) 10 10, .int .i64 m, .pointer (some ⟨R, m, none⟩), .bool false, .bool true, .bool true, .slice (some p) 10 cap, .int .i64 m, .pointer (some q), obV ob l dd mm, .int .i64 now, .bool true, .bool false, .bool false] ∧ Holds8 (gAt r2 m) false ∧ Holds8 x true)) := by
          cases hg : gAt r2 m with
          | true => exact ⟨_, .inl ⟨rfl, rfl⟩⟩
          | false =>
            have hxx : x = true := by rw [hg] at hy; simpa using hy
            exact ⟨_, .inr ⟨rfl, rfl, hxx⟩⟩
        have HNX : Hid (ledB os now i m = true → gAt r2 m = true) := fun e => by
          rw [HST.out] at e
          cases hg : gAt r2 m with
          | true => rfl
          | false => rw [hg, e] at hy; exact absurd hy (by simp)
        obtain ⟨l0, HL1⟩ := HL.out
        have HL : Hid ((l0 = [.slice (some ⟨R, 0, none⟩) 10 10, .int .i64 m, .pointer (some ⟨R, m, none⟩), .bool true, .bool false, .bool false, undef, undef, undef, undef, undef, undef, undef, .bool false] ∧ Holds8 (gAt r2 m) true) ∨ (l0 = [.slice (some ⟨R, 0, none⟩) 10 10, .int .i64 m, .pointer (some ⟨R, m, none⟩), .bool false, .bool true, .bool true, .slice (some p) 10 cap, .int .i64 m, .pointer (some q), obV ob l dd mm, .int .i64 now, .bool true, .bool false, .bool false] ∧ Holds8 (gAt r2 m) false ∧ Holds8 x true)) := HL1
        clear HL1 hy
        go_wp2_with fail
        refine wp_region_whole (by kernel_rfl) (by kernel_rfl) (by kernel_rfl) (by kernel_rfl) (Flat (fun wz => Below wr.heap.size wr wz) (gVals l0)) (flat_start (below_draw _)) ?_ ?_
        · refine ⟨?_, ?_, ?_, ?_, ?_, ?_, ?_, ?_, ?_, ?_, ?_, ?_, ?_, ?_, trivial⟩
          · intro b0 us wz L hslot hoth hLi hR hcl hdo K hK
            rcases HL.out with ⟨rfl, HT⟩ | ⟨rfl, HT, HX1⟩
            · have s1 : b0.tmps.getD 1 undef = .pointer (some ⟨a, 0, none⟩) := hoth 1 (by rfl)
              have kA := HA.out wz hR.1
              clear hslot hoth hdo hcl hLi
              refine guard_none (by rfl) ?_
              go_simp
              exact hK _ _ (flat_mark (hR.1) (fun _ _ h => h) hR.2 rfl)
            · have s1 : b0.tmps.getD 1 undef = .pointer (some ⟨a, 0, none⟩) := hoth 1 (by rfl)
              have kA := HA.out wz hR.1
              clear hslot hoth hdo hcl hLi
              refine guard_none (by rfl) ?_
              go_simp
              exact hK _ _ (flat_mark (hR.1) (fun _ _ h => h) hR.2 rfl)
          · intro b0 us wz L hslot hoth hLi hR hcl hdo K hK
            rcases HL.out with ⟨rfl, HT⟩ | ⟨rfl, HT, HX1⟩
            · have s7 : b0.tmps.getD 7 undef = .int .i64 m := hoth 7 (by rfl)
              clear hslot hoth hdo hcl hLi
              refine guard_none (by rfl) ?_
              go_simp
              exact hK _ _ (flat_mark (hR.1) (fun _ _ h => h) hR.2 rfl)
            · have s7 : b0.tmps.getD 7 undef = .int .i64 m := hoth 7 (by rfl)
              clear hslot hoth hdo hcl hLi
              refine guard_none (by rfl) ?_
              go_simp
              exact hK _ _ (flat_mark (hR.1) (fun _ _ h => h) hR.2 rfl)
          · intro b0 us wz L hslot hoth hLi hR hcl hdo K hK
            rcases HL.out with ⟨rfl, HT⟩ | ⟨rfl, HT, HX1⟩
            · have s19 : b0.tmps.getD 19 undef = .slice (some ⟨R, 0, none⟩) 10 10 := (hslot 0 19 (by rfl)).trans (hR.2 0 (done_at hdo 0 (by rfl)))
              have s20 : b0.tmps.getD 20 undef = .int .i64 m := (hslot 1 20 (by rfl)).trans (hR.2 1 (done_at hdo 1 (by rfl)))
              clear hslot hoth hdo hcl hLi
              refine guard_none (by rfl) ?_
              go_simp
              exact hK _ _ (flat_mark (hR.1) (fun _ _ h => h) hR.2 rfl)
            · have s19 : b0.tmps.getD 19 undef = .slice (some ⟨R, 0, none⟩) 10 10 := (hslot 0 19 (by rfl)).trans (hR.2 0 (done_at hdo 0 (by rfl)))
              have s20 : b0.tmps.getD 20 undef = .int .i64 m := (hslot 1 20 (by rfl)).trans (hR.2 1 (done_at hdo 1 (by rfl)))
              clear hslot hoth hdo hcl hLi
              refine guard_none (by rfl) ?_
              go_simp
              exact hK _ _ (flat_mark (hR.1) (fun _ _ h => h) hR.2 rfl)
          · intro b0 us wz L hslot hoth hLi hR hcl hdo K hK
            rcases HL.out with ⟨rfl, HT⟩ | ⟨rfl, HT, HX1⟩
            · have s21 : b0.tmps.getD 21 undef = .pointer (some ⟨R, m, none⟩) := (hslot 2 21 (by rfl)).trans (hR.2 2 (done_at hdo 2 (by rfl)))
              have kM := (HM.out wz hR.1).trans (congrArg (fun b => some (Value.bool b)) HT)
              clear hslot hoth hdo hcl hLi
              refine guard_none (by rfl) ?_
              go_simp
              exact hK _ _ (flat_mark (hR.1) (fun _ _ h => h) hR.2 rfl)
            · have s21 : b0.tmps.getD 21 undef = .pointer (some ⟨R, m, none⟩) := (hslot 2 21 (by rfl)).trans (hR.2 2 (done_at hdo 2 (by rfl)))
              have kM := (HM.out wz hR.1).trans (congrArg (fun b => some (Value.bool b)) HT)
              clear hslot hoth hdo hcl hLi
              refine guard_none (by rfl) ?_
              go_simp
              exact hK _ _ (flat_mark (hR.1) (fun _ _ h => h) hR.2 rfl)
          · intro b0 us wz L hslot hoth hLi hR hcl hdo K hK
            rcases HL.out with ⟨rfl, HT⟩ | ⟨rfl, HT, HX1⟩
            · have s22 : b0.tmps.getD 22 undef = .bool true := (hslot 3 22 (by rfl)).trans (hR.2 3 (done_at hdo 3 (by rfl)))
              clear hslot hoth hdo hcl hLi
              refine guard_none (by rfl) ?_
              go_simp
              exact hK _ _ (flat_mark (hR.1) (fun _ _ h => h) hR.2 rfl)
            · have s22 : b0.tmps.getD 22 undef = .bool false := (hslot 3 22 (by rfl)).trans (hR.2 3 (done_at hdo 3 (by rfl)))
              clear hslot hoth hdo hcl hLi
              refine guard_none (by rfl) ?_
              go_simp
              exact hK _ _ (flat_mark (hR.1) (fun _ _ h => h) hR.2 rfl)
          · intro b0 us wz L hslot hoth hLi hR hcl hdo K hK
            rcases HL.out with ⟨rfl, HT⟩ | ⟨rfl, HT, HX1⟩
            · have s23 : b0.tmps.getD 23 undef = .bool false := (hslot 4 23 (by rfl)).trans (hR.2 4 (done_at hdo 4 (by rfl)))
              clear hslot hoth hdo hcl hLi
              refine guard_none (by rfl) ?_
              go_simp
              exact hK _ _ (flat_mark (hR.1) (fun _ _ h => h) hR.2 rfl)
            · have s23 : b0.tmps.getD 23 undef = .bool true := (hslot 4 23 (by rfl)).trans (hR.2 4 (done_at hdo 4 (by rfl)))
              clear hslot hoth hdo hcl hLi
              refine guard_none (by rfl) ?_
              go_simp
              exact hK _ _ (flat_mark (hR.1) (fun _ _ h => h) hR.2 rfl)
          · intro b0 us wz L hslot hoth hLi hR hcl hdo K hK
            rcases HL.out with ⟨rfl, HT⟩ | ⟨rfl, HT, HX1⟩
            · have gg : us 5 = .bool false := hR.2 5 (done_at hdo 5 (by rfl))
              refine guard_off (j := 5) (want := true) (d := 24) (by rfl) (by rfl) gg (by rfl) ?_
              exact hK undef _ (flat_mark (hR.1) (fun _ _ h => h) hR.2 rfl)
            · have gg : us 5 = .bool true := hR.2 5 (done_at hdo 5 (by rfl))
              have s2 : b0.tmps.getD 2 undef = .pointer (some ⟨b, 0, none⟩) := hoth 2 (by rfl)
              have kB := HBX.out wz hR.1
              clear hslot hoth hdo hcl hLi
              refine guard_on (j := 5) (want := true) (d := 24) (by rfl) (by rfl) gg ?_
              go_simp
              exact hK _ _ (flat_mark (hR.1) (fun _ _ h => h) hR.2 rfl)
          · intro b0 us wz L hslot hoth hLi hR hcl hdo K hK
            rcases HL.out with ⟨rfl, HT⟩ | ⟨rfl, HT, HX1⟩
            · have gg : us 5 = .bool false := hR.2 5 (done_at hdo 5 (by rfl))
              refine guard_off (j := 5) (want := true) (d := 24) (by rfl) (by rfl) gg (by rfl) ?_
              exact hK undef _ (flat_mark (hR.1) (fun _ _ h => h) hR.2 rfl)
            · have gg : us 5 = .bool true := hR.2 5 (done_at hdo 5 (by rfl))
              have s7 : b0.tmps.getD 7 undef = .int .i64 m := hoth 7 (by rfl)
              clear hslot hoth hdo hcl hLi
              refine guard_on (j := 5) (want := true) (d := 24) (by rfl) (by rfl) gg ?_
              go_simp
              exact hK _ _ (flat_mark (hR.1) (fun _ _ h => h) hR.2 rfl)
          · intro b0 us wz L hslot hoth hLi hR hcl hdo K hK
            rcases HL.out with ⟨rfl, HT⟩ | ⟨rfl, HT, HX1⟩
            · have gg : us 5 = .bool false := hR.2 5 (done_at hdo 5 (by rfl))
              refine guard_off (j := 5) (want := true) (d := 24) (by rfl) (by rfl) gg (by rfl) ?_
              exact hK undef _ (flat_mark (hR.1) (fun _ _ h => h) hR.2 rfl)
            · have gg : us 5 = .bool true := hR.2 5 (done_at hdo 5 (by rfl))
              have s25 : b0.tmps.getD 25 undef = .slice (some p) 10 cap := (hslot 6 25 (by rfl)).trans (hR.2 6 (done_at hdo 6 (by rfl)))
              have s26 : b0.tmps.getD 26 undef = .int .i64 m := (hslot 7 26 (by rfl)).trans (hR.2 7 (done_at hdo 7 (by rfl)))
              have hq := HQ.out
              clear hslot hoth hdo hcl hLi
              refine guard_on (j := 5) (want := true) (d := 24) (by rfl) (by rfl) gg ?_
              go_simp
              exact hK _ _ (flat_mark (hR.1) (fun _ _ h => h) hR.2 rfl)
          · intro b0 us wz L hslot hoth hLi hR hcl hdo K hK
            rcases HL.out with ⟨rfl, HT⟩ | ⟨rfl, HT, HX1⟩
            · have gg : us 5 = .bool false := hR.2 5 (done_at hdo 5 (by rfl))
              refine guard_off (j := 5) (want := true) (d := 24) (by rfl) (by rfl) gg (by rfl) ?_
              exact hK undef _ (flat_mark (hR.1) (fun _ _ h => h) hR.2 rfl)
            · have gg : us 5 = .bool true := hR.2 5 (done_at hdo 5 (by rfl))
              have s27 : b0.tmps.getD 27 undef = .pointer (some q) := (hslot 8 27 (by rfl)).trans (hR.2 8 (done_at hdo 8 (by rfl)))
              obtain ⟨c0, c1, c2, c3, c4, c5, c6, c7, c8, c9, c10, c11, c12⟩ := HCS.out.on hR.1
              clear hslot hoth hdo hcl hLi
              refine guard_on (j := 5) (want := true) (d := 24) (by rfl) (by rfl) gg ?_
              go_simp
              exact hK _ _ (flat_mark (hR.1) (fun _ _ h => h) hR.2 rfl)
          · intro b0 us wz L hslot hoth hLi hR hcl hdo K hK
            rcases HL.out with ⟨rfl, HT⟩ | ⟨rfl, HT, HX1⟩
            · have gg : us 5 = .bool false := hR.2 5 (done_at hdo 5 (by rfl))
              refine guard_off (j := 5) (want := true) (d := 24) (by rfl) (by rfl) gg (by rfl) ?_
              exact hK undef _ (flat_mark (hR.1) (fun _ _ h => h) hR.2 rfl)
            · have gg : us 5 = .bool true := hR.2 5 (done_at hdo 5 (by rfl))
              have s3 : b0.tmps.getD 3 undef = .pointer (some ⟨c, 0, none⟩) := hoth 3 (by rfl)
              have kC := HCX.out wz hR.1
              clear hslot hoth hdo hcl hLi
              refine guard_on (j := 5) (want := true) (d := 24) (by rfl) (by rfl) gg ?_
              go_simp
              exact hK _ _ (flat_mark (hR.1) (fun _ _ h => h) hR.2 rfl)
          · intro b0 us wz L hslot hoth hLi hR hcl hdo K hK
            rcases HL.out with ⟨rfl, HT⟩ | ⟨rfl, HT, HX1⟩
            · have gg : us 5 = .bool false := hR.2 5 (done_at hdo 5 (by rfl))
              refine guard_off (j := 5) (want := true) (d := 24) (by rfl) (by rfl) gg (by rfl) ?_
              exact hK undef _ (flat_mark (hR.1) (fun _ _ h => h) hR.2 rfl)
            · have gg : us 5 = .bool true := hR.2 5 (done_at hdo 5 (by rfl))
              have s28 : b0.tmps.getD 28 undef = obV ob l dd mm := (hslot 9 28 (by rfl)).trans (hR.2 9 (done_at hdo 9 (by rfl)))
              have s29 : b0.tmps.getD 29 undef = .int .i64 now := (hslot 10 29 (by rfl)).trans (hR.2 10 (done_at hdo 10 (by rfl)))
              clear hslot hoth hdo hcl hLi
              refine guard_on (j := 5) (want := true) (d := 24) (by rfl) (by rfl) gg ?_
              go_simp
              refine (HEX.out wz).mono ?_
              rintro e w' ⟨rfl, hb⟩
              exact hK _ _ (flat_mark (below_more hR.1 hb) (fun _ _ h => h) hR.2 (show Value.bool x = Value.bool true from congrArg Value.bool HX1))
          · intro b0 us wz L hslot hoth hLi hR hcl hdo K hK
            rcases HL.out with ⟨rfl, HT⟩ | ⟨rfl, HT, HX1⟩
            · have gg : us 5 = .bool false := hR.2 5 (done_at hdo 5 (by rfl))
              refine guard_off (j := 5) (want := true) (d := 24) (by rfl) (by rfl) gg (by rfl) ?_
              exact hK undef _ (flat_mark (hR.1) (fun _ _ h => h) hR.2 rfl)
            · have gg : us 5 = .bool true := hR.2 5 (done_at hdo 5 (by rfl))
              have s30 : b0.tmps.getD 30 undef = .bool true := (hslot 11 30 (by rfl)).trans (hR.2 11 (done_at hdo 11 (by rfl)))
              clear hslot hoth hdo hcl hLi
              refine guard_on (j := 5) (want := true) (d := 24) (by rfl) (by rfl) gg ?_
              go_simp
              exact hK _ _ (flat_mark (hR.1) (fun _ _ h => h) hR.2 rfl)
          · intro b0 us wz L hslot hoth hLi hR hcl hdo K hK
            rcases HL.out with ⟨rfl, HT⟩ | ⟨rfl, HT, HX1⟩
            · have s24 : b0.tmps.getD 24 undef = .bool false := (hslot 5 24 (by rfl)).trans (hR.2 5 (done_at hdo 5 (by rfl)))
              have s31 : b0.tmps.getD 31 undef = undef := (hslot 12 31 (by rfl)).trans (hR.2 12 (done_at hdo 12 (by rfl)))
              clear hslot hoth hdo hcl hLi
              refine guard_none (by rfl) ?_
              go_simp
              exact hK _ _ (flat_mark (hR.1) (fun _ _ h => h) hR.2 rfl)
            · have s24 : b0.tmps.getD 24 undef = .bool true := (hslot 5 24 (by rfl)).trans (hR.2 5 (done_at hdo 5 (by rfl)))
              have s31 : b0.tmps.getD 31 undef = .bool false := (hslot 12 31 (by rfl)).trans (hR.2 12 (done_at hdo 12 (by rfl)))
              clear hslot hoth hdo hcl hLi
              refine guard_none (by rfl) ?_
              go_simp
              exact hK _ _ (flat_mark (hR.1) (fun _ _ h => h) hR.2 rfl)
        · intro us wn L hall hR a' ha'
          have g13 : us 13 = .bool false := by
            have := hR.2 13 (hall 13 (by decide))
            rcases HL.out with ⟨rfl, HT⟩ | ⟨rfl, HT, HX1⟩
            all_goals exact this
          have HB := hid_of hR.1
          clear hR hall
          simp only [putAll, g13] at ha'
          subst ha'
          go_frame
          clear HL HA HBX HCX HM HEX
          go_wp2
          go_roundw
          case rel => exact ⟨k + 1, r2, by omega, by go_num, (HG.out.1.pass HNX.out).less (fun m hm => by rw [HTK.out, List.mem_append, List.mem_singleton] at hm; rcases hm with h | h; exact .inl h; exact .inr (by omega)), HG.out.2.1.on HB.out, HG.out.2.2.trans (touch_below HB.out (lt_of_block HG.out.2.1.row))⟩
          case measure => simp [intOf]; omega
      | true =>
        have hg : gAt r2 m = false := by cases h : gAt r2 m with | false => rfl | true => rw [h] at hy; simp at hy
        have hxx : x = false := by cases h : x with | false => rfl | true => rw [h] at hy; simp at hy
        have HGF := hid_of hg
        have HL : Hid (∃ (l0 : List Value), l0 = [.slice (some ⟨R, 0, none⟩) 10 10, .int .i64 m, .pointer (some ⟨R, m, none⟩), .bool false, .bool true, .bool true, .slice (some p) 10 cap, .int .i64 m, .pointer (some q), obV ob l dd mm, .int .i64 now, .bool false, .bool true, .bool true] ∧ Holds8 (gAt r2 m) false ∧ Holds8 x false) := ⟨_, rfl, hg, hxx⟩
        have HLD : Hid (ledB os now i m = true) := by show _ = _; rw [HST.out, hxx]; rfl
        obtain ⟨l0, HL1⟩ := HL.out
        have HL : Hid (l0 = [.slice (some ⟨R, 0, none⟩) 10 10, .int .i64 m, .pointer (some ⟨R, m, none⟩), .bool false, .bool true, .bool true, .slice (some p) 10 cap, .int .i64 m, .pointer (some q), obV ob l dd mm, .int .i64 now, .bool false, .bool true, .bool true] ∧ Holds8 (gAt r2 m) false ∧ Holds8 x false) := HL1
        clear HL1 hy hg hxx
        go_wp2_with fail
        refine wp_region_whole (by kernel_rfl) (by kernel_rfl) (by kernel_rfl) (by kernel_rfl) (Flat (fun wz => Below wr.heap.size wr wz) (gVals l0)) (flat_start (below_draw _)) ?_ ?_
        · refine ⟨?_, ?_, ?_, ?_, ?_, ?_, ?_, ?_, ?_, ?_, ?_, ?_, ?_, ?_, trivial⟩
          · intro b0 us wz L hslot hoth hLi hR hcl hdo K hK
            rcases HL.out with ⟨rfl, HT, HX1⟩
            · have s1 : b0.tmps.getD 1 undef = .pointer (some ⟨a, 0, none⟩) := hoth 1 (by rfl)
              have kA := HA.out wz hR.1
              clear hslot hoth hdo hcl hLi
              refine guard_none (by rfl) ?_
              go_simp
              exact hK _ _ (flat_mark (hR.1) (fun _ _ h => h) hR.2 rfl)
          · intro b0 us wz L hslot hoth hLi hR hcl hdo K hK
            rcases HL.out with ⟨rfl, HT, HX1⟩
            · have s7 : b0.tmps.getD 7 undef = .int .i64 m := hoth 7 (by rfl)
              clear hslot hoth hdo hcl hLi
              refine guard_none (by rfl) ?_
              go_simp
              exact hK _ _ (flat_mark (hR.1) (fun _ _ h => h) hR.2 rfl)
          · intro b0 us wz L hslot hoth hLi hR hcl hdo K hK
            rcases HL.out with ⟨rfl, HT, HX1⟩
            · have s19 : b0.tmps.getD 19 undef = .slice (some ⟨R, 0, none⟩) 10 10 := (hslot 0 19 (by rfl)).trans (hR.2 0 (done_at hdo 0 (by rfl)))
              have s20 : b0.tmps.getD 20 undef = .int .i64 m := (hslot 1 20 (by rfl)).trans (hR.2 1 (done_at hdo 1 (by rfl)))
              clear hslot hoth hdo hcl hLi
              refine guard_none (by rfl) ?_
              go_simp
              exact hK _ _ (flat_mark (hR.1) (fun _ _ h => h) hR.2 rfl)
          · intro b0 us wz L hslot hoth hLi hR hcl hdo K hK
            rcases HL.out with ⟨rfl, HT, HX1⟩
            · have s21 : b0.tmps.getD 21 undef = .pointer (some ⟨R, m, none⟩) := (hslot 2 21 (by rfl)).trans (hR.2 2 (done_at hdo 2 (by rfl)))
              have kM := (HM.out wz hR.1).trans (congrArg (fun b => some (Value.bool b)) HT)
              clear hslot hoth hdo hcl hLi
              refine guard_none (by rfl) ?_
              go_simp
              exact hK _ _ (flat_mark (hR.1) (fun _ _ h => h) hR.2 rfl)
          · intro b0 us wz L hslot hoth hLi hR hcl hdo K hK
            rcases HL.out with ⟨rfl, HT, HX1⟩
            · have s22 : b0.tmps.getD 22 undef = .bool false := (hslot 3 22 (by rfl)).trans (hR.2 3 (done_at hdo 3 (by rfl)))
              clear hslot hoth hdo hcl hLi
              refine guard_none (by rfl) ?_
              go_simp
              exact hK _ _ (flat_mark (hR.1) (fun _ _ h => h) hR.2 rfl)
          · intro b0 us wz L hslot hoth hLi hR hcl hdo K hK
            rcases HL.out with ⟨rfl, HT, HX1⟩
            · have s23 : b0.tmps.getD 23 undef = .bool true := (hslot 4 23 (by rfl)).trans (hR.2 4 (done_at hdo 4 (by rfl)))
              clear hslot hoth hdo hcl hLi
              refine guard_none (by rfl) ?_
              go_simp
              exact hK _ _ (flat_mark (hR.1) (fun _ _ h => h) hR.2 rfl)
          · intro b0 us wz L hslot hoth hLi hR hcl hdo K hK
            rcases HL.out with ⟨rfl, HT, HX1⟩
            · have gg : us 5 = .bool true := hR.2 5 (done_at hdo 5 (by rfl))
              have s2 : b0.tmps.getD 2 undef = .pointer (some ⟨b, 0, none⟩) := hoth 2 (by rfl)
              have kB := HBX.out wz hR.1
              clear hslot hoth hdo hcl hLi
              refine guard_on (j := 5) (want := true) (d := 24) (by rfl) (by rfl) gg ?_
              go_simp
              exact hK _ _ (flat_mark (hR.1) (fun _ _ h => h) hR.2 rfl)
          · intro b0 us wz L hslot hoth hLi hR hcl hdo K hK
            rcases HL.out with ⟨rfl, HT, HX1⟩
            · have gg : us 5 = .bool true := hR.2 5 (done_at hdo 5 (by rfl))
              have s7 : b0.tmps.getD 7 undef = .int .i64 m := hoth 7 (by rfl)
              clear hslot hoth hdo hcl hLi
              refine guard_on (j := 5) (want := true) (d := 24) (by rfl) (by rfl) gg ?_
              go_simp
              exact hK _ _ (flat_mark (hR.1) (fun _ _ h => h) hR.2 rfl)
          · intro b0 us wz L hslot hoth hLi hR hcl hdo K hK
            rcases HL.out with ⟨rfl, HT, HX1⟩
            · have gg : us 5 = .bool true := hR.2 5 (done_at hdo 5 (by rfl))
              have s25 : b0.tmps.getD 25 undef = .slice (some p) 10 cap := (hslot 6 25 (by rfl)).trans (hR.2 6 (done_at hdo 6 (by rfl)))
              have s26 : b0.tmps.getD 26 undef = .int .i64 m := (hslot 7 26 (by rfl)).trans (hR.2 7 (done_at hdo 7 (by rfl)))
              have hq := HQ.out
              clear hslot hoth hdo hcl hLi
              refine guard_on (j := 5) (want := true) (d := 24) (by rfl) (by rfl) gg ?_
              go_simp
              exact hK _ _ (flat_mark (hR.1) (fun _ _ h => h) hR.2 rfl)
          · intro b0 us wz L hslot hoth hLi hR hcl hdo K hK
            rcases HL.out with ⟨rfl, HT, HX1⟩
            · have gg : us 5 = .bool true := hR.2 5 (done_at hdo 5 (by rfl))
              have s27 : b0.tmps.getD 27 undef = .pointer (some q) := (hslot 8 27 (by rfl)).trans (hR.2 8 (done_at hdo 8 (by rfl)))
              obtain ⟨c0, c1, c2, c3, c4, c5, c6, c7, c8, c9, c10, c11, c12⟩ := HCS.out.on hR.1
              clear hslot hoth hdo hcl hLi
              refine guard_on (j := 5) (want := true) (d := 24) (by rfl) (by rfl) gg ?_
              go_simp
              exact hK _ _ (flat_mark (hR.1) (fun _ _ h => h) hR.2 rfl)
          · intro b0 us wz L hslot hoth hLi hR hcl hdo K hK
            rcases HL.out with ⟨rfl, HT, HX1⟩
            · have gg : us 5 = .bool true := hR.2 5 (done_at hdo 5 (by rfl))
              have s3 : b0.tmps.getD 3 undef = .pointer (some ⟨c, 0, none⟩) := hoth 3 (by rfl)
              have kC := HCX.out wz hR.1
              clear hslot hoth hdo hcl hLi
              refine guard_on (j := 5) (want := true) (d := 24) (by rfl) (by rfl) gg ?_
              go_simp
              exact hK _ _ (flat_mark (hR.1) (fun _ _ h => h) hR.2 rfl)
          · intro b0 us wz L hslot hoth hLi hR hcl hdo K hK
            rcases HL.out with ⟨rfl, HT, HX1⟩
            · have gg : us 5 = .bool true := hR.2 5 (done_at hdo 5 (by rfl))
              have s28 : b0.tmps.getD 28 undef = obV ob l dd mm := (hslot 9 28 (by rfl)).trans (hR.2 9 (done_at hdo 9 (by rfl)))
              have s29 : b0.tmps.getD 29 undef = .int .i64 now := (hslot 10 29 (by rfl)).trans (hR.2 10 (done_at hdo 10 (by rfl)))
              clear hslot hoth hdo hcl hLi
              refine guard_on (j := 5) (want := true) (d := 24) (by rfl) (by rfl) gg ?_
              go_simp
              refine (HEX.out wz).mono ?_
              rintro e w' ⟨rfl, hb⟩
              exact hK _ _ (flat_mark (below_more hR.1 hb) (fun _ _ h => h) hR.2 (show Value.bool x = Value.bool false from congrArg Value.bool HX1))
          · intro b0 us wz L hslot hoth hLi hR hcl hdo K hK
            rcases HL.out with ⟨rfl, HT, HX1⟩
            · have gg : us 5 = .bool true := hR.2 5 (done_at hdo 5 (by rfl))
              have s30 : b0.tmps.getD 30 undef = .bool false := (hslot 11 30 (by rfl)).trans (hR.2 11 (done_at hdo 11 (by rfl)))
              clear hslot hoth hdo hcl hLi
              refine guard_on (j := 5) (want := true) (d := 24) (by rfl) (by rfl) gg ?_
              go_simp
              exact hK _ _ (flat_mark (hR.1) (fun _ _ h => h) hR.2 rfl)
          · intro b0 us wz L hslot hoth hLi hR hcl hdo K hK
            rcases HL.out with ⟨rfl, HT, HX1⟩
            · have s24 : b0.tmps.getD 24 undef = .bool true := (hslot 5 24 (by rfl)).trans (hR.2 5 (done_at hdo 5 (by rfl)))
              have s31 : b0.tmps.getD 31 undef = .bool true := (hslot 12 31 (by rfl)).trans (hR.2 12 (done_at hdo 12 (by rfl)))
              clear hslot hoth hdo hcl hLi
              refine guard_none (by rfl) ?_
              go_simp
              exact hK _ _ (flat_mark (hR.1) (fun _ _ h => h) hR.2 rfl)
        · intro us wn L hall hR a' ha'
          have g13 : us 13 = .bool true := by
            have := hR.2 13 (hall 13 (by decide))
            rcases HL.out with ⟨rfl, HT, HX1⟩
            all_goals exact this
          have HB := hid_of hR.1
          clear hR hall
          simp only [putAll, g13] at ha'
          subst ha'
          go_frame
          have kD := cell_one (keep HG.out.2.1.hd HB.out)
          have HC : Hid (Calls Try.prog 49 #[.int .i64 m, .pointer (some ⟨a, 0, none⟩), .pointer (some ⟨b, 0, none⟩), .pointer (some ⟨c, 0, none⟩), .pointer (some ⟨d, 0, none⟩)] wn fun e w' => (∃ u, e = .returned u) ∧ ∃ r', Visited (ledB os now) m r2 r' ∧ Vst w0 p cap now R a b c d r' w' ∧ Touch [R] wn w') :=
            HIH.out r2 m wn (HG.out.2.1.on HB.out) HG.out.1.len hm10 HGF.out (HN.out.2.2.2.next HLD.out) (by have e1 := HG.out.1.many HN.out.1 HN.out.2.1; have e2 := HN.out.2.2.1; omega)
          clear HL HA HBX HCX HM HEX
          go_wp2_with fail
          refine HC.out.mono ?_
          rintro e w2 ⟨⟨u, rfl⟩, r3, hvis, hvst, htc⟩
          have HZ : Hid (Visit (ledB os now) i (fun m => (m : Int) ∈ es.take (k + 1)) r r3 ∧ Vst w0 p cap now R a b c d r3 w2 ∧ Touch [R] w1 w2) :=
            ⟨(HG.out.1.into hvis).less (fun m hm => by rw [HTK.out, List.mem_append, List.mem_singleton] at hm; rcases hm with h | h; exact .inl h; exact .inr (by omega)), hvst, HG.out.2.2.trans ((touch_below HB.out (lt_of_block HG.out.2.1.row)).trans htc)⟩
          clear hvis hvst htc HC HG HB
          go_wp2
          go_roundw
          case rel => exact ⟨k + 1, r3, by omega, by go_num, HZ⟩
          case measure => simp [intOf]; omega
    · obtain rfl : k = nl := by omega
      have HZ : Hid (Visited (ledB os now) i r r2 ∧ Vst w0 p cap now R a b c d r2 wr ∧ Touch [R] w wr) := ⟨hin.out.1.done (fun m hm => by
        rw [HNL.out, List.take_length, HES.out, edges_mem]
        unfold ledB at hm
        simp only [Bool.and_eq_true, decide_eq_true_eq] at hm
        exact ⟨hm.1, hm.2.1⟩), hin.out.2.1, HT2.out.trans hin.out.2.2⟩
      clear hin
      go_wp2
      go_returns
      exact ⟨⟨_, rfl⟩, _, HZ.out⟩
theorem visit_any (w0 : World) (p : Addr) (cap : Nat) (os : List Ob) (now : Int) (R a b c d : Nat) (hx : IsArena w0 (.slice (some p) 10 cap) os) (hl : os.length = 10) (hs : ∀ i, (obAt os i).ls.length ≤ 9223372036854775807) : ∀ n, VisitOk w0 p cap os now R a b c d n
  | 0 => fun r i w hv hr hi h0 hL hn => by
    have h1 := cnt_le r
    have := cnt_full r (by omega) i (by omega)
    rw [h0] at this
    exact absurd this (by simp)
  | n + 1 => visit_next w0 p cap os now R a b c d n hx hl hs (visit_any w0 p cap os now R a b c d hx hl hs n)
end Go.Proofs.Ytokicnopfmokaaa
namespace Go.Proofs.Ytokicnopfmokaaa
open Go.RowKit
set_option linter.unusedVariables false
set_option maxRecDepth 100000

/-- Bools that the call owns are handed back. -/
def BoolsAns (xs : List Bool) (w : World) (e : Ending) (w' : World) : Prop := ∃ a n c, e = .returned (.slice a n c) ∧ n = xs.length ∧ n ≤ c ∧ (n ≠ 0 → ∃ g, a = some ⟨g, 0, none⟩ ∧ w.heap.size ≤ g ∧ BolIn w' g xs) ∧ Below w.heap.size w w'
theorem five_new (w : World) (A B C D E : Obj) : (((((w.alloc A).alloc B).alloc C).alloc D).alloc E).heap[w.heap.size]? = some A ∧ (((((w.alloc A).alloc B).alloc C).alloc D).alloc E).heap[w.heap.size + 1]? = some B ∧ (((((w.alloc A).alloc B).alloc C).alloc D).alloc E).heap[w.heap.size + 1 + 1]? = some C ∧ (((((w.alloc A).alloc B).alloc C).alloc D).alloc E).heap[w.heap.size + 1 + 1 + 1]? = some D ∧ (((((w.alloc A).alloc B).alloc C).alloc D).alloc E).heap[w.heap.size + 1 + 1 + 1 + 1]? = some E ∧ Below w.heap.size w (((((w.alloc A).alloc B).alloc C).alloc D).alloc E) := by
  have a := heap_alloc_new w A
  have b := heap_alloc_new (w.alloc A) B
  have c := heap_alloc_new ((w.alloc A).alloc B) C
  have d := heap_alloc_new (((w.alloc A).alloc B).alloc C) D
  have e := heap_alloc_new ((((w.alloc A).alloc B).alloc C).alloc D) E
  have z1 : (w.alloc A).heap.size = w.heap.size + 1 := by simp
  have z2 : ((w.alloc A).alloc B).heap.size = w.heap.size + 1 + 1 := by simp
  have z3 : (((w.alloc A).alloc B).alloc C).heap.size = w.heap.size + 1 + 1 + 1 := by simp
  have z4 : ((((w.alloc A).alloc B).alloc C).alloc D).heap.size = w.heap.size + 1 + 1 + 1 + 1 := by simp
  rw [z1] at b
  rw [z2] at c
  rw [z3] at d
  rw [z4] at e
  exact ⟨keep (keep (keep (keep a (below_alloc _ _)) (below_alloc _ _)) (below_alloc _ _)) (below_alloc _ _), keep (keep (keep b (below_alloc _ _)) (below_alloc _ _)) (below_alloc _ _), keep (keep c (below_alloc _ _)) (below_alloc _ _), keep d (below_alloc _ _), e, below_more (below_more (below_more (below_more (below_alloc w _) (below_alloc _ _)) (below_alloc _ _)) (below_alloc _ _)) (below_alloc _ _)⟩
set_option maxRecDepth 100000 in
set_option maxHeartbeats 4000000 in
theorem implReachOf_any (p : Addr) (cap : Nat) (os : List Ob) (now : Int) (w : World) (hx : IsArena w (.slice (some p) 10 cap) os) (hl : os.length = 10) (hs : ∀ i, (obAt os i).ls.length ≤ 9223372036854775807) :
    Calls Try.prog 33 #[.slice (some p) 10 cap, .int .i64 now] w fun e w' => BoolsAns (reached (ledB os now)) w e w' := by
  have hm : (Instr.makeSlice 56 (.int .i64 10) (.int .i64 10)).run Try.prog ((w.alloc (.cells #[.slice (some p) 10 cap] 24 (0, 0))).alloc (.cells #[.int .i64 now] 3 (0, 0))) = _ := make_bools 10 (by omega) _
  have hcap : 10 ≤ cap := by obtain ⟨_, _, hv, h, _⟩ := hx; have e := (Value.slice.inj hv).2.2; omega
  have hsf := fun (a : Addr) (fn : Fn) (f c : Array Value) (w : World) => (run_store Try.prog w a (.func fn f c) _ rfl : Sem.run Try.prog (store a (.func fn f c)) w = _)
  have hfive := five_new w (.cells #[.slice (some p) 10 cap] 24 (0, 0)) (.cells #[.int .i64 now] 3 (0, 0)) (.cells (blcells [false, false, false, false, false, false, false, false, false, false]).toArray 4 (0, 0)) (.cells #[.slice (some ⟨w.heap.size + 1 + 1, 0, none⟩) 10 10] 56 (0, 0)) (.cells #[fnV (w.heap.size + 1 + 1 + 1) w.heap.size (w.heap.size + 1) (w.heap.size + 1 + 1 + 1 + 1)] 69 (0, 0))
  obtain ⟨h1, h2, h3, h4, h5, h6⟩ := hfive
  have C := visit_any w p cap os now (w.heap.size + 1 + 1) (w.heap.size + 1 + 1 + 1) w.heap.size (w.heap.size + 1) (w.heap.size + 1 + 1 + 1 + 1) hx hl hs 10 (List.replicate 10 false) 0 _ ⟨h6, by omega, h3, h4, h1, h2, h5, by omega, by omega, by omega, by omega⟩ rfl (by omega) rfl (leads_zero _) (by decide)
  have HC := hid_of C
  have HSZ : Hid (w.heap.size ≤ w.heap.size + 1 + 1) := by show _ ≤ _; omega
  clear hl C h1 h2 h3 h4 h5 h6 hs hx
  go_enter Try.func33, Try.ntmps33
  go_wp2_with fail
  refine HC.out.mono ?_
  rintro e w1 ⟨⟨u, rfl⟩, r', hvis, hvst, _⟩
  obtain rfl : r' = reached (ledB os now) := hvis.right.one (reached_right ledB_lt)
  have kA := cell_one hvst.ha
  have HV := hid_of hvst
  have HLN : Hid (10 = (reached (ledB os now)).length) := hvis.len.symm
  clear HC hvis hvst hm
  go_wp2
  go_returns
  exact ⟨_, 10, 10, rfl, HLN.out, Nat.le_refl _, fun _ => ⟨_, rfl, HSZ.out, HV.out.row⟩, HV.out.base⟩
end Go.Proofs.Ytokicnopfmokaaa
namespace Go.Proofs.Ytokicnopfmokaaa
open Go.RowKit
set_option linter.unusedVariables false
set_option maxRecDepth 100000

def reachAns (os : List Ob) (now : Int) : List Bool := if arenaOk os then reached (ledB os now) else []
theorem reached_len (os : List Ob) (now : Int) : (reached (ledB os now)).length = 10 := (reached_right ledB_lt).len
theorem boolsAns_nil (w w' : World) (h : Below w.heap.size w w') : BoolsAns [] w (.returned (.slice none 0 0)) w' := ⟨none, 0, 0, rfl, rfl, Nat.le_refl _, fun h => absurd rfl h, h⟩
theorem BoolsAns.from {xs : List Bool} {w w1 : World} {e : Ending} {w' : World} (hb : Below w.heap.size w w1) (h : BoolsAns xs w1 e w') : BoolsAns xs w e w' := by
  obtain ⟨a, n, c, he, hn, hc, hg, hb2⟩ := h
  exact ⟨a, n, c, he, hn, hc, fun h0 => by obtain ⟨g, h1, h2, h3⟩ := hg h0; exact ⟨g, h1, Nat.le_trans hb.size h2, h3⟩, below_more hb hb2⟩
theorem ls_small {os : List Ob} (hs : Small8 os) (i : Nat) : (obAt os i).ls.length ≤ 9223372036854775807 := by have := hs i; unfold obN at this; omega
def lostB (os : List Ob) (r : List Bool) (k : Nat) : Bool := !((obAt os k).kind == 0) && !(gAt r k)
def lostTo (os : List Ob) (r : List Bool) (n : Nat) : List Int := ((List.range n).filter (lostB os r)).map fun (k : Nat) => (k : Int)
theorem lostTo_next (os : List Ob) (r : List Bool) (n : Nat) : lostTo os r (n + 1) = if lostB os r n = true then lostTo os r n ++ [(n : Int)] else lostTo os r n := by
  unfold lostTo
  rw [List.range_succ, List.filter_append, List.map_append]
  cases h : lostB os r n <;> simp [h]
theorem lostTo_yes {os : List Ob} {r : List Bool} {n : Nat} (h : lostB os r n = true) : lostTo os r (n + 1) = lostTo os r n ++ [(n : Int)] := by rw [lostTo_next, if_pos h]
theorem lostTo_no {os : List Ob} {r : List Bool} {n : Nat} (h : lostB os r n = false) : lostTo os r (n + 1) = lostTo os r n := by rw [lostTo_next, if_neg (by rw [h]; simp)]
theorem lostTo_len (os : List Ob) (r : List Bool) (n : Nat) : (lostTo os r n).length ≤ n := by
  have := List.length_filter_le (lostB os r) (List.range n)
  rw [List.length_range] at this
  unfold lostTo
  rw [List.length_map]; exact this
def garbAns (os : List Ob) (now : Int) : List Int := if arenaOk os then lostTo os (reached (ledB os now)) 10 else []
theorem garbAns_len (os : List Ob) (now : Int) : (garbAns os now).length ≤ 1048576 := by
  unfold garbAns
  split
  · exact Nat.le_trans (lostTo_len _ _ _) (by decide)
  · simp
end Go.Proofs.Ytokicnopfmokaaa
namespace Go.Proofs.Ytokicnopfmokaaa
open Go.RowKit
set_option linter.unusedVariables false
set_option maxRecDepth 100000

theorem wpList_appI2 {ops : Array Oper} {rest : List Oper} {o : Oper} {a : Act} {Q : Exit → Act → World → Prop} (hgd : o.guard = none) (s x : Operand)
    (ho : o.op = .call { callee := .builtin .append, args := #[s, x], argTypes := #[25, 25] }) (w0 W : World) (base g : Nat) (gb : Nat) (rb : List Bool) (v : Value) (acc new : List Int) (k c : Nat)
    (hs : a.eval s = v) (hx : a.eval x = .slice (some ⟨g, 0, none⟩) k c) (hown : W.ownsRow base 3 1 v acc.length (icells acc)) (hcell : ∀ (j : Nat) u, (icells new)[j]? = some u → W.cell? ⟨g, j, none⟩ = some u) (hk : new.length = k)
    (hb : acc.length + k ≤ 17592186044416) (hbase : base ≤ W.heap.size) (hnx : Below base w0 W) (hrw : BolIn W gb rb)
    (h : ∀ v' w', Hid (w'.ownsRow base 3 1 v' (acc ++ new).length (icells (acc ++ new))) → Hid (Below base w0 w') → Hid (BolIn w' gb rb) → wpList Try.prog ops Q rest (a.put o.dst v') w') : wpList Try.prog ops Q (o :: rest) a W := by
  subst hk
  obtain ⟨i0, hi, hz0, hz1, hz2⟩ := info_parts info3
  refine wpList_append_own _ hgd s x 25 ho base 3 i0 (.int .i64 0) 1 8 Try.underlying25 hi hz0 hz1 hz2 rfl (by decide) v acc.length (icells acc) hs hown ⟨g, 0, none⟩ new.length c (icells new) hx (by rw [icells_length]; omega) ?_ (icells_one _) (by simp only [maxLen]; omega) (by omega) hbase ?_
  · intro j u hj
    have : (⟨g, 0, none⟩ : Addr).add j = ⟨g, j, none⟩ := by unfold Addr.add; split <;> simp_all
    rw [this]
    exact hcell j u hj
  · intro v' w' h1 h2 _
    refine h v' w' ?_ ?_ ?_
    · show World.ownsRow _ _ _ _ _ _ _
      rw [icells_append, List.length_append]; exact h1
    · exact hnx.grown h2 hbase (fun k hk => (hown.lt k hk).1)
    · refine grown_kept h2 hrw fun e => ?_
      rcases hown.2 with ⟨hv, _⟩ | ⟨g', cap, cur, hv, _, hg', _⟩
      · rw [hv] at e; simp [Value.ownBlock] at e
      · rw [hv] at e
        simp [Value.ownBlock] at e
        subst e
        unfold BolIn at hrw
        rw [hg'] at hrw
        simp at hrw
/-- What the model's rounds share: the marks lie in block R. -/
structure Srs (w : World) (R : Nat) (r : List Bool) (wr : World) : Prop where
  base : Below w.heap.size w wr
  low : w.heap.size ≤ R
  row : BolIn wr R r
theorem Srs.on {w : World} {R : Nat} {r : List Bool} {wr w' : World} (h : Srs w R r wr) (hb : Below wr.heap.size wr w') : Srs w R r w' := ⟨below_more h.base hb, h.low, h.row.on hb⟩
theorem Srs.mark {w : World} {R : Nat} {r : List Bool} {wr : World} (h : Srs w R r wr) (i : Nat) : Srs w R (r.set i true) (wr.setCell ⟨R, i, none⟩ (.bool true)) ∧ Touch [R] wr (wr.setCell ⟨R, i, none⟩ (.bool true)) :=
  have ht : Touch [R] wr (wr.setCell ⟨R, i, none⟩ (.bool true)) := touch_one (grownBy_set wr R i _) (lt_of_block h.row)
  ⟨⟨ht.below _ _ (by simpa using h.low) h.base, h.low, h.row.set i true⟩, ht⟩
theorem leads_there {os : List Ob} {now : Int} {k : Nat} (h : Leads (ledB os now) k) : k = 0 ∨ expB (obAt os k) now = false :=
  h (fun k => k = 0 ∨ expB (obAt os k) now = false) (.inl rfl) fun i m _ hs => .inr (by
    unfold ledB at hs
    simp only [Bool.and_eq_true, Bool.not_eq_true'] at hs
    exact hs.2.2)
end Go.Proofs.Ytokicnopfmokaaa
namespace Go.Proofs.Ytokicnopfmokaaa
open Go.RowKit
set_option linter.unusedVariables false
set_option maxRecDepth 100000

def goodOf (os : List Ob) (now part h : Int) : Int := if arenaOk os && (isHandle h && (handlePart h == part)) then (if ((obAt os (handleSlot h).toNat).gen == handleGen h) && gAt (reached (ledB os now)) (handleSlot h).toNat then handleSlot h else -1) else -1
def ansK (b : Bool) (k : Nat) : Int := if b = true then (k : Int) else -1
def Holds9 (x y : Bool) : Prop := x = y
theorem slot_in {h : Int} (hh : isHandle h = true) : 0 ≤ handleSlot h ∧ handleSlot h ≤ 9 := by
  unfold handleSlot
  rw [if_pos hh]
  have := inB_true hh
  omega
theorem reached_live {os : List Ob} {now : Int} {k : Nat} (hok : arenaOk os = true) (h : gAt (reached (ledB os now)) k = true) : (obAt os k).kind ≠ 0 := by
  rcases leads_there ((reached_right ledB_lt).leads k h) with h0 | h0
  · rw [h0]
    have hr := (arenaOk_parts hok).2.2.1
    unfold rootB at hr
    simp only [Bool.and_eq_true, decide_eq_true_eq] at hr
    rw [hr.1]; decide
  · unfold expB at h0
    simp only [Bool.or_eq_false_iff] at h0
    exact fun e => by rw [e] at h0; exact absurd h0.1 (by simp)
theorem slice_at0 {w : World} {a : Option Addr} {n c : Nat} {os : List Ob} (h : IsArena w (.slice a n c) os) (h0 : 0 < os.length) : ∃ p, a = some p := by
  obtain ⟨a', c', hv, _, hx⟩ := h
  obtain ⟨p, _, _, _, hp, _⟩ := hx 0 h0
  have e := (Value.slice.inj hv).1
  exact ⟨p, e.trans hp⟩
/-- What a region leaves that asks what is reached. -/
def gGoodI (r : List Bool) (k : Nat) (vs : List Value) (i : Nat) (u : Value) (w : World) : Prop := match i with
  | 11 => ∃ g c, u = .slice (some ⟨g, 0, none⟩) 10 c ∧ 10 ≤ c ∧ BolIn w g r
  | 13 => ∃ g, u = .pointer (some ⟨g, k, none⟩) ∧ BolIn w g r
  | i => u = vs.getD i undef
theorem gGoodI_on {r : List Bool} {k : Nat} {vs : List Value} {w w' : World} (hb : Below w.heap.size w w') (i : Nat) (u : Value) (h : gGoodI r k vs i u w) : gGoodI r k vs i u w' := by
  unfold gGoodI at h ⊢
  split
  · obtain ⟨g, c, e, e2, h1⟩ := h
    exact ⟨g, c, e, e2, h1.on hb⟩
  · obtain ⟨g, e, h1⟩ := h
    exact ⟨g, e, h1.on hb⟩
  · rename_i hne hne2
    split at h
    · exact absurd rfl hne
    · exact absurd rfl hne2
    · exact h
/-- What a region leaves that asks what is reached. -/
def gGoodS (r : List Bool) (k : Nat) (vs : List Value) (i : Nat) (u : Value) (w : World) : Prop := match i with
  | 19 => ∃ g c, u = .slice (some ⟨g, 0, none⟩) 10 c ∧ 10 ≤ c ∧ BolIn w g r
  | 21 => ∃ g, u = .pointer (some ⟨g, k, none⟩) ∧ BolIn w g r
  | i => u = vs.getD i undef
theorem gGoodS_on {r : List Bool} {k : Nat} {vs : List Value} {w w' : World} (hb : Below w.heap.size w w') (i : Nat) (u : Value) (h : gGoodS r k vs i u w) : gGoodS r k vs i u w' := by
  unfold gGoodS at h ⊢
  split
  · obtain ⟨g, c, e, e2, h1⟩ := h
    exact ⟨g, c, e, e2, h1.on hb⟩
  · obtain ⟨g, e, h1⟩ := h
    exact ⟨g, e, h1.on hb⟩
  · rename_i hne hne2
    split at h
    · exact absurd rfl hne
    · exact absurd rfl hne2
    · exact h
set_option maxRecDepth 100000 in
set_option maxHeartbeats 8000000 in
theorem implGood_go (p : Addr) (cap : Nat) (os : List Ob) (now part h : Int) (k : Nat) (b : Bool) (w : World) (hx : IsArena w (.slice (some p) 10 cap) os) (hok : arenaOk os = true) (hs : Small8 os) (hh : isHandle h = true) (hp : handlePart h = part) (hk : handleSlot h = k) (hk9 : k < 10)
    (hb : b = (((obAt os k).gen == handleGen h) && gAt (reached (ledB os now)) k)) :
    Calls Try.prog 12 #[.slice (some p) 10 cap, .int .i64 now, .int .i64 part, .int .i64 h] w fun e w' => e = .returned (.int .i64 (ansK b k)) ∧ Below w.heap.size w w' := by
  have hlen := (arenaOk_parts hok).1
  have hn : os.length ≤ 1048576 := by omega
  have CA := implArenaOk_any _ os w hx hn hs
  rw [hok] at CA
  have CH : ∀ w, Calls Try.prog 29 #[.int .i64 h] w fun e w' => e = .returned (.bool (isHandle h)) ∧ w = w' := isHandleI_b h
  simp only [hh] at CH
  have HCP := hid_of (implHandlePart_any h)
  have HCS0 := hid_of (implHandleSlot_any h)
  simp only [hp] at HCP
  simp only [hk] at HCS0
  have HHG := hid_of (implHandleGen_any h)
  have HX : Hid (∀ w', Below w.heap.size w w' → IsArena w' (.slice (some p) 10 cap) os) := fun w' hb => hx.on hb
  have HRC0 : Hid (∀ w', Below w.heap.size w w' → Calls Try.prog 33 #[.slice (some p) 10 cap, .int .i64 now] w' fun e w'' => BoolsAns (reached (ledB os now)) w' e w'') := fun w' hb => by
    exact implReachOf_any p cap os now w' (hx.on hb) hlen (ls_small hs)
  have hcap : 10 ≤ cap := by obtain ⟨_, _, hv, h, _⟩ := hx; have e := (Value.slice.inj hv).2.2; omega
  have HL0 : Hid (os.length = 10) := hlen
  have HRL : Hid ((reached (ledB os now)).length = 10) := reached_len os now
  have HLV : Hid (gAt (reached (ledB os now)) k = true → (obAt os k).kind ≠ 0) := reached_live hok
  have HBB : Hid (b = (((obAt os k).gen == handleGen h) && gAt (reached (ledB os now)) k)) := hb
  have HKN := hid_of hk9
  have HK10 : Hid ((k : Int) < 10) := by show (k : Int) < 10; omega
  obtain ⟨z, hz⟩ : ∃ z, z = handleGen h := ⟨_, rfl⟩
  rw [← hz] at HHG HBB
  generalize reached (ledB os now) = r at *
  have hpp : (part != part) = false := by simp
  clear hlen hx hok hs hh hp hk hb hz hn
  go_enter Try.func12, Try.ntmps12
  go_wp2_with fail
  refine CA.mono ?_
  rintro e w1 ⟨rfl, hb⟩
  have HB1 := hid_of hb
  clear CA hb
  go_wp2_with fail
  refine (CH _).mono ?_
  rintro e w2 ⟨rfl, rfl⟩
  clear CH
  go_wp2_with fail
  refine (HCP.out _).mono ?_
  rintro e w2 ⟨rfl, rfl⟩
  clear HCP
  go_wp2_with fail
  refine (HCS0.out _).mono ?_
  rintro e w2 ⟨rfl, rfl⟩
  clear HCS0
  obtain ⟨W, hW⟩ : ∃ W, W = w1 := ⟨_, rfl⟩
  subst hW
  obtain ⟨p', q, l, d, m, hp, hq, hcs, -⟩ := (HX.out W HB1.out).at (i := k) (by rw [HL0.out]; exact hk9)
  obtain rfl : p = p' := by simpa using hp
  have HQ := hid_of hq
  have HCS : Hid (ObCells W q (obAt os k) l d m) := hcs
  have HRC : Hid (∀ w', Below W.heap.size W w' → Calls Try.prog 33 #[.slice (some p) 10 cap, .int .i64 now] w' fun e w'' => BoolsAns r w' e w'') := fun w' hb => HRC0.out w' (below_more HB1.out hb)
  obtain ⟨x, hx1⟩ : ∃ x, x = (obAt os k).kind := ⟨_, rfl⟩
  obtain ⟨y, hy1⟩ : ∃ y, y = (obAt os k).gen := ⟨_, rfl⟩
  have HK1 : Hid ((obAt os k).kind = x) := hx1.symm
  have HK0 : Hid ((obAt os k).gen = y) := hy1.symm
  rw [← hx1] at HLV
  rw [← hy1] at HBB
  clear hp hq hcs hx1 hy1 HX HRC0
  cases hn0 : (y != z) with
  | true =>
    have HBW : b = false := by rw [HBB.out]; have e : (y == z) = false := by simpa [bne] using hn0
                               rw [e]; rfl
    replace hn0 : Holds9 (y != z) true := hn0
    have HBV : Hid (b = false) := HBW
    clear HBW
    have HL : Hid (∃ l0 : List Value, l0 = [.slice (some p) 10 cap, .int .i64 k, .pointer (some q), .pointer (some q), .int .i64 y, .int .i64 h, .int .i64 z, .bool true, .bool true, undef, undef, undef, undef, undef, undef, undef, .bool true] ∧ Holds9 (y != z) true) := ⟨_, rfl, hn0⟩
    obtain ⟨l0, HL1⟩ := HL.out
    have HL : Hid (l0 = [.slice (some p) 10 cap, .int .i64 k, .pointer (some q), .pointer (some q), .int .i64 y, .int .i64 h, .int .i64 z, .bool true, .bool true, undef, undef, undef, undef, undef, undef, undef, .bool true] ∧ Holds9 (y != z) true) := HL1
    clear HL1
    go_wp2_with fail
    refine wp_region_whole (by kernel_rfl) (by kernel_rfl) (by kernel_rfl) (by kernel_rfl) (Flat (fun wz => Below W.heap.size W wz) (gVals l0)) (flat_start (below_draw _)) ?_ ?_
    · refine ⟨?_, ?_, ?_, ?_, ?_, ?_, ?_, ?_, ?_, ?_, ?_, ?_, ?_, ?_, ?_, ?_, ?_, trivial⟩
      · intro b0 us wz L hslot hoth hLi hR hcl hdo K hK
        rcases HL.out with ⟨rfl, HN⟩
        · have s0 : b0.tmps.getD 0 undef = .slice (some p) 10 cap := hoth 0 (by rfl)
          clear hslot hoth hdo hcl hLi
          refine guard_none (by rfl) ?_
          go_simp
          exact hK _ _ (flat_mark (hR.1) (fun _ _ h => h) hR.2 rfl)
      · intro b0 us wz L hslot hoth hLi hR hcl hdo K hK
        rcases HL.out with ⟨rfl, HN⟩
        · have s9 : b0.tmps.getD 9 undef = .int .i64 k := hoth 9 (by rfl)
          clear hslot hoth hdo hcl hLi
          refine guard_none (by rfl) ?_
          go_simp
          exact hK _ _ (flat_mark (hR.1) (fun _ _ h => h) hR.2 rfl)
      · intro b0 us wz L hslot hoth hLi hR hcl hdo K hK
        rcases HL.out with ⟨rfl, HN⟩
        · have s26 : b0.tmps.getD 26 undef = .slice (some p) 10 cap := (hslot 0 26 (by rfl)).trans (hR.2 0 (done_at hdo 0 (by rfl)))
          have s27 : b0.tmps.getD 27 undef = .int .i64 k := (hslot 1 27 (by rfl)).trans (hR.2 1 (done_at hdo 1 (by rfl)))
          have hq := HQ.out
          have hk10 : (k : Int) < 10 := HK10.out
          clear hslot hoth hdo hcl hLi
          refine guard_none (by rfl) ?_
          go_simp
          exact hK _ _ (flat_mark (hR.1) (fun _ _ h => h) hR.2 rfl)
      · intro b0 us wz L hslot hoth hLi hR hcl hdo K hK
        rcases HL.out with ⟨rfl, HN⟩
        · have s28 : b0.tmps.getD 28 undef = .pointer (some q) := (hslot 2 28 (by rfl)).trans (hR.2 2 (done_at hdo 2 (by rfl)))
          clear hslot hoth hdo hcl hLi
          refine guard_none (by rfl) ?_
          go_simp
          exact hK _ _ (flat_mark (hR.1) (fun _ _ h => h) hR.2 rfl)
      · intro b0 us wz L hslot hoth hLi hR hcl hdo K hK
        rcases HL.out with ⟨rfl, HN⟩
        · have s29 : b0.tmps.getD 29 undef = .pointer (some q) := (hslot 3 29 (by rfl)).trans (hR.2 3 (done_at hdo 3 (by rfl)))
          have k0 := (HCS.out.on hR.1).c0
          rw [HK0.out] at k0
          clear hslot hoth hdo hcl hLi
          refine guard_none (by rfl) ?_
          go_simp
          exact hK _ _ (flat_mark (hR.1) (fun _ _ h => h) hR.2 rfl)
      · intro b0 us wz L hslot hoth hLi hR hcl hdo K hK
        rcases HL.out with ⟨rfl, HN⟩
        · have s3 : b0.tmps.getD 3 undef = .int .i64 h := hoth 3 (by rfl)
          clear hslot hoth hdo hcl hLi
          refine guard_none (by rfl) ?_
          go_simp
          exact hK _ _ (flat_mark (hR.1) (fun _ _ h => h) hR.2 rfl)
      · intro b0 us wz L hslot hoth hLi hR hcl hdo K hK
        rcases HL.out with ⟨rfl, HN⟩
        · have s31 : b0.tmps.getD 31 undef = .int .i64 h := (hslot 5 31 (by rfl)).trans (hR.2 5 (done_at hdo 5 (by rfl)))
          clear hslot hoth hdo hcl hLi
          refine guard_none (by rfl) ?_
          go_simp
          refine (HHG.out wz).mono ?_
          rintro e w' ⟨rfl, rfl⟩
          exact hK _ _ (flat_mark (hR.1) (fun _ _ h => h) hR.2 rfl)
      · intro b0 us wz L hslot hoth hLi hR hcl hdo K hK
        rcases HL.out with ⟨rfl, HN⟩
        · have s30 : b0.tmps.getD 30 undef = .int .i64 y := (hslot 4 30 (by rfl)).trans (hR.2 4 (done_at hdo 4 (by rfl)))
          have s32 : b0.tmps.getD 32 undef = .int .i64 z := (hslot 6 32 (by rfl)).trans (hR.2 6 (done_at hdo 6 (by rfl)))
          have e7 : (y != z) = true := HN
          clear hslot hoth hdo hcl hLi
          refine guard_none (by rfl) ?_
          go_simp
          exact hK _ _ (flat_mark (hR.1) (fun _ _ h => h) hR.2 rfl)
      · intro b0 us wz L hslot hoth hLi hR hcl hdo K hK
        rcases HL.out with ⟨rfl, HN⟩
        · have s33 : b0.tmps.getD 33 undef = .bool true := (hslot 7 33 (by rfl)).trans (hR.2 7 (done_at hdo 7 (by rfl)))
          clear hslot hoth hdo hcl hLi
          refine guard_none (by rfl) ?_
          go_simp
          exact hK _ _ (flat_mark (hR.1) (fun _ _ h => h) hR.2 rfl)
      · intro b0 us wz L hslot hoth hLi hR hcl hdo K hK
        rcases HL.out with ⟨rfl, HN⟩
        · have gg : us 8 = .bool true := hR.2 8 (done_at hdo 8 (by rfl))
          refine guard_off (j := 8) (want := false) (d := 34) (by rfl) (by rfl) gg (by rfl) ?_
          exact hK undef _ (flat_mark (hR.1) (fun _ _ h => h) hR.2 rfl)
      · intro b0 us wz L hslot hoth hLi hR hcl hdo K hK
        rcases HL.out with ⟨rfl, HN⟩
        · have gg : us 8 = .bool true := hR.2 8 (done_at hdo 8 (by rfl))
          refine guard_off (j := 8) (want := false) (d := 34) (by rfl) (by rfl) gg (by rfl) ?_
          exact hK undef _ (flat_mark (hR.1) (fun _ _ h => h) hR.2 rfl)
      · intro b0 us wz L hslot hoth hLi hR hcl hdo K hK
        rcases HL.out with ⟨rfl, HN⟩
        · have gg : us 8 = .bool true := hR.2 8 (done_at hdo 8 (by rfl))
          refine guard_off (j := 8) (want := false) (d := 34) (by rfl) (by rfl) gg (by rfl) ?_
          exact hK undef _ (flat_mark (hR.1) (fun _ _ h => h) hR.2 rfl)
      · intro b0 us wz L hslot hoth hLi hR hcl hdo K hK
        rcases HL.out with ⟨rfl, HN⟩
        · have gg : us 8 = .bool true := hR.2 8 (done_at hdo 8 (by rfl))
          refine guard_off (j := 8) (want := false) (d := 34) (by rfl) (by rfl) gg (by rfl) ?_
          exact hK undef _ (flat_mark (hR.1) (fun _ _ h => h) hR.2 rfl)
      · intro b0 us wz L hslot hoth hLi hR hcl hdo K hK
        rcases HL.out with ⟨rfl, HN⟩
        · have gg : us 8 = .bool true := hR.2 8 (done_at hdo 8 (by rfl))
          refine guard_off (j := 8) (want := false) (d := 34) (by rfl) (by rfl) gg (by rfl) ?_
          exact hK undef _ (flat_mark (hR.1) (fun _ _ h => h) hR.2 rfl)
      · intro b0 us wz L hslot hoth hLi hR hcl hdo K hK
        rcases HL.out with ⟨rfl, HN⟩
        · have gg : us 8 = .bool true := hR.2 8 (done_at hdo 8 (by rfl))
          refine guard_off (j := 8) (want := false) (d := 34) (by rfl) (by rfl) gg (by rfl) ?_
          exact hK undef _ (flat_mark (hR.1) (fun _ _ h => h) hR.2 rfl)
      · intro b0 us wz L hslot hoth hLi hR hcl hdo K hK
        rcases HL.out with ⟨rfl, HN⟩
        · have gg : us 8 = .bool true := hR.2 8 (done_at hdo 8 (by rfl))
          refine guard_off (j := 8) (want := false) (d := 34) (by rfl) (by rfl) gg (by rfl) ?_
          exact hK undef _ (flat_mark (hR.1) (fun _ _ h => h) hR.2 rfl)
      · intro b0 us wz L hslot hoth hLi hR hcl hdo K hK
        rcases HL.out with ⟨rfl, HN⟩
        · have s34 : b0.tmps.getD 34 undef = .bool true := (hslot 8 34 (by rfl)).trans (hR.2 8 (done_at hdo 8 (by rfl)))
          have s41 : b0.tmps.getD 41 undef = undef := (hslot 15 41 (by rfl)).trans (hR.2 15 (done_at hdo 15 (by rfl)))
          clear hslot hoth hdo hcl hLi
          refine guard_none (by rfl) ?_
          go_simp
          exact hK _ _ (flat_mark (hR.1) (fun _ _ h => h) hR.2 rfl)
    · intro us wn L hall hR a' ha'
      have g16 : us 16 = .bool true := by
        have := hR.2 16 (hall 16 (by decide))
        rcases HL.out with ⟨rfl, HN⟩
        all_goals exact this
      have HB := hid_of hR.1
      clear hR hall
      simp only [putAll, g16] at ha'
      subst ha'
      go_frame
      have HB9 := hid_of (below_more HB1.out HB.out)
      clear HL HB HRC HHG
      go_wp2
      go_ret
      exact ⟨by rw [HBV.out]; rfl, HB9.out⟩
  | false =>
    have hyz : (y == z) = true := by simpa [bne] using hn0
    replace hn0 : Holds9 (y != z) false := hn0
    cases hg0 : gAt r k with
    | true =>
      have HBW : b = true := by rw [HBB.out, hyz, hg0]; rfl
      replace hg0 : Holds9 (gAt r k) true := hg0
      clear hyz
      have HBV : Hid (b = true) := HBW
      clear HBW
      have HL : Hid (∃ l0 : List Value, l0 = [.slice (some p) 10 cap, .int .i64 k, .pointer (some q), .pointer (some q), .int .i64 y, .int .i64 h, .int .i64 z, .bool false, .bool false, .slice (some p) 10 cap, .int .i64 now, undef, .int .i64 k, undef, .bool true, .bool false, .bool false] ∧ Holds9 (y != z) false ∧ Holds9 (gAt r k) true) := ⟨_, rfl, hn0, hg0⟩
      obtain ⟨l0, HL1⟩ := HL.out
      have HL : Hid (l0 = [.slice (some p) 10 cap, .int .i64 k, .pointer (some q), .pointer (some q), .int .i64 y, .int .i64 h, .int .i64 z, .bool false, .bool false, .slice (some p) 10 cap, .int .i64 now, undef, .int .i64 k, undef, .bool true, .bool false, .bool false] ∧ Holds9 (y != z) false ∧ Holds9 (gAt r k) true) := HL1
      clear HL1
      go_wp2_with fail
      refine wp_region_whole (by kernel_rfl) (by kernel_rfl) (by kernel_rfl) (by kernel_rfl) (Flat (fun wz => Below W.heap.size W wz) (gGoodI r k l0)) (flat_start (below_draw _)) ?_ ?_
      · refine ⟨?_, ?_, ?_, ?_, ?_, ?_, ?_, ?_, ?_, ?_, ?_, ?_, ?_, ?_, ?_, ?_, ?_, trivial⟩
        · intro b0 us wz L hslot hoth hLi hR hcl hdo K hK
          rcases HL.out with ⟨rfl, HN, HB2⟩
          · have s0 : b0.tmps.getD 0 undef = .slice (some p) 10 cap := hoth 0 (by rfl)
            clear hslot hoth hdo hcl hLi
            refine guard_none (by rfl) ?_
            go_simp
            exact hK _ _ (flat_mark (hR.1) (fun _ _ h => h) hR.2 rfl)
        · intro b0 us wz L hslot hoth hLi hR hcl hdo K hK
          rcases HL.out with ⟨rfl, HN, HB2⟩
          · have s9 : b0.tmps.getD 9 undef = .int .i64 k := hoth 9 (by rfl)
            clear hslot hoth hdo hcl hLi
            refine guard_none (by rfl) ?_
            go_simp
            exact hK _ _ (flat_mark (hR.1) (fun _ _ h => h) hR.2 rfl)
        · intro b0 us wz L hslot hoth hLi hR hcl hdo K hK
          rcases HL.out with ⟨rfl, HN, HB2⟩
          · have s26 : b0.tmps.getD 26 undef = .slice (some p) 10 cap := (hslot 0 26 (by rfl)).trans (hR.2 0 (done_at hdo 0 (by rfl)))
            have s27 : b0.tmps.getD 27 undef = .int .i64 k := (hslot 1 27 (by rfl)).trans (hR.2 1 (done_at hdo 1 (by rfl)))
            have hq := HQ.out
            have hk10 : (k : Int) < 10 := HK10.out
            clear hslot hoth hdo hcl hLi
            refine guard_none (by rfl) ?_
            go_simp
            exact hK _ _ (flat_mark (hR.1) (fun _ _ h => h) hR.2 rfl)
        · intro b0 us wz L hslot hoth hLi hR hcl hdo K hK
          rcases HL.out with ⟨rfl, HN, HB2⟩
          · have s28 : b0.tmps.getD 28 undef = .pointer (some q) := (hslot 2 28 (by rfl)).trans (hR.2 2 (done_at hdo 2 (by rfl)))
            clear hslot hoth hdo hcl hLi
            refine guard_none (by rfl) ?_
            go_simp
            exact hK _ _ (flat_mark (hR.1) (fun _ _ h => h) hR.2 rfl)
        · intro b0 us wz L hslot hoth hLi hR hcl hdo K hK
          rcases HL.out with ⟨rfl, HN, HB2⟩
          · have s29 : b0.tmps.getD 29 undef = .pointer (some q) := (hslot 3 29 (by rfl)).trans (hR.2 3 (done_at hdo 3 (by rfl)))
            have k0 := (HCS.out.on hR.1).c0
            rw [HK0.out] at k0
            clear hslot hoth hdo hcl hLi
            refine guard_none (by rfl) ?_
            go_simp
            exact hK _ _ (flat_mark (hR.1) (fun _ _ h => h) hR.2 rfl)
        · intro b0 us wz L hslot hoth hLi hR hcl hdo K hK
          rcases HL.out with ⟨rfl, HN, HB2⟩
          · have s3 : b0.tmps.getD 3 undef = .int .i64 h := hoth 3 (by rfl)
            clear hslot hoth hdo hcl hLi
            refine guard_none (by rfl) ?_
            go_simp
            exact hK _ _ (flat_mark (hR.1) (fun _ _ h => h) hR.2 rfl)
        · intro b0 us wz L hslot hoth hLi hR hcl hdo K hK
          rcases HL.out with ⟨rfl, HN, HB2⟩
          · have s31 : b0.tmps.getD 31 undef = .int .i64 h := (hslot 5 31 (by rfl)).trans (hR.2 5 (done_at hdo 5 (by rfl)))
            clear hslot hoth hdo hcl hLi
            refine guard_none (by rfl) ?_
            go_simp
            refine (HHG.out wz).mono ?_
            rintro e w' ⟨rfl, rfl⟩
            exact hK _ _ (flat_mark (hR.1) (fun _ _ h => h) hR.2 rfl)
        · intro b0 us wz L hslot hoth hLi hR hcl hdo K hK
          rcases HL.out with ⟨rfl, HN, HB2⟩
          · have s30 : b0.tmps.getD 30 undef = .int .i64 y := (hslot 4 30 (by rfl)).trans (hR.2 4 (done_at hdo 4 (by rfl)))
            have s32 : b0.tmps.getD 32 undef = .int .i64 z := (hslot 6 32 (by rfl)).trans (hR.2 6 (done_at hdo 6 (by rfl)))
            have e7 : (y != z) = false := HN
            clear hslot hoth hdo hcl hLi
            refine guard_none (by rfl) ?_
            go_simp
            exact hK _ _ (flat_mark (hR.1) (fun _ _ h => h) hR.2 rfl)
        · intro b0 us wz L hslot hoth hLi hR hcl hdo K hK
          rcases HL.out with ⟨rfl, HN, HB2⟩
          · have s33 : b0.tmps.getD 33 undef = .bool false := (hslot 7 33 (by rfl)).trans (hR.2 7 (done_at hdo 7 (by rfl)))
            clear hslot hoth hdo hcl hLi
            refine guard_none (by rfl) ?_
            go_simp
            exact hK _ _ (flat_mark (hR.1) (fun _ _ h => h) hR.2 rfl)
        · intro b0 us wz L hslot hoth hLi hR hcl hdo K hK
          rcases HL.out with ⟨rfl, HN, HB2⟩
          · have gg : us 8 = .bool false := hR.2 8 (done_at hdo 8 (by rfl))
            have s0 : b0.tmps.getD 0 undef = .slice (some p) 10 cap := hoth 0 (by rfl)
            clear hslot hoth hdo hcl hLi
            refine guard_on (j := 8) (want := false) (d := 34) (by rfl) (by rfl) gg ?_
            go_simp
            exact hK _ _ (flat_mark (hR.1) (fun _ _ h => h) hR.2 rfl)
        · intro b0 us wz L hslot hoth hLi hR hcl hdo K hK
          rcases HL.out with ⟨rfl, HN, HB2⟩
          · have gg : us 8 = .bool false := hR.2 8 (done_at hdo 8 (by rfl))
            have s1 : b0.tmps.getD 1 undef = .int .i64 now := hoth 1 (by rfl)
            clear hslot hoth hdo hcl hLi
            refine guard_on (j := 8) (want := false) (d := 34) (by rfl) (by rfl) gg ?_
            go_simp
            exact hK _ _ (flat_mark (hR.1) (fun _ _ h => h) hR.2 rfl)
        · intro b0 us wz L hslot hoth hLi hR hcl hdo K hK
          rcases HL.out with ⟨rfl, HN, HB2⟩
          · have gg : us 8 = .bool false := hR.2 8 (done_at hdo 8 (by rfl))
            have s35 : b0.tmps.getD 35 undef = .slice (some p) 10 cap := (hslot 9 35 (by rfl)).trans (hR.2 9 (done_at hdo 9 (by rfl)))
            have s36 : b0.tmps.getD 36 undef = .int .i64 now := (hslot 10 36 (by rfl)).trans (hR.2 10 (done_at hdo 10 (by rfl)))
            clear hslot hoth hdo hcl hLi
            refine guard_on (j := 8) (want := false) (d := 34) (by rfl) (by rfl) gg ?_
            go_simp
            refine (HRC.out wz hR.1).mono ?_
            rintro e w' ⟨a9, n9, c9, rfl, hn9, hc9, hg9, hb9⟩
            obtain rfl : n9 = 10 := by rw [hn9]; exact HRL.out
            obtain ⟨g9, rfl, -, hbol9⟩ := hg9 (by omega)
            exact hK _ _ (flat_mark (below_more hR.1 hb9) (gGoodI_on hb9) hR.2 ⟨g9, c9, rfl, hc9, hbol9⟩)
        · intro b0 us wz L hslot hoth hLi hR hcl hdo K hK
          rcases HL.out with ⟨rfl, HN, HB2⟩
          · have gg : us 8 = .bool false := hR.2 8 (done_at hdo 8 (by rfl))
            have s9 : b0.tmps.getD 9 undef = .int .i64 k := hoth 9 (by rfl)
            clear hslot hoth hdo hcl hLi
            refine guard_on (j := 8) (want := false) (d := 34) (by rfl) (by rfl) gg ?_
            go_simp
            exact hK _ _ (flat_mark (hR.1) (fun _ _ h => h) hR.2 rfl)
        · intro b0 us wz L hslot hoth hLi hR hcl hdo K hK
          rcases HL.out with ⟨rfl, HN, HB2⟩
          · have gg : us 8 = .bool false := hR.2 8 (done_at hdo 8 (by rfl))
            obtain ⟨g, cg, hu, hcg, hbol⟩ := hR.2 11 (done_at hdo 11 (by rfl))
            have s37 : b0.tmps.getD 37 undef = .slice (some ⟨g, 0, none⟩) 10 cg := (hslot 11 37 (by rfl)).trans hu
            have s38 : b0.tmps.getD 38 undef = .int .i64 k := (hslot 12 38 (by rfl)).trans (hR.2 12 (done_at hdo 12 (by rfl)))
            have hk10 : (k : Int) < 10 := HK10.out
            clear hslot hoth hdo hcl hLi
            refine guard_on (j := 8) (want := false) (d := 34) (by rfl) (by rfl) gg ?_
            go_simp
            exact hK _ _ (flat_mark (hR.1) (fun _ _ h => h) hR.2 ⟨g, rfl, hbol⟩)
        · intro b0 us wz L hslot hoth hLi hR hcl hdo K hK
          rcases HL.out with ⟨rfl, HN, HB2⟩
          · have gg : us 8 = .bool false := hR.2 8 (done_at hdo 8 (by rfl))
            obtain ⟨g, hu, hbol⟩ := hR.2 13 (done_at hdo 13 (by rfl))
            have s39 : b0.tmps.getD 39 undef = .pointer (some ⟨g, k, none⟩) := (hslot 13 39 (by rfl)).trans hu
            have kR := (hbol.cell k (by rw [HRL.out]; exact HKN.out)).trans (congrArg (fun b => some (Value.bool b)) HB2)
            clear hslot hoth hdo hcl hLi
            refine guard_on (j := 8) (want := false) (d := 34) (by rfl) (by rfl) gg ?_
            go_simp
            exact hK _ _ (flat_mark (hR.1) (fun _ _ h => h) hR.2 rfl)
        · intro b0 us wz L hslot hoth hLi hR hcl hdo K hK
          rcases HL.out with ⟨rfl, HN, HB2⟩
          · have gg : us 8 = .bool false := hR.2 8 (done_at hdo 8 (by rfl))
            have s40 : b0.tmps.getD 40 undef = .bool true := (hslot 14 40 (by rfl)).trans (hR.2 14 (done_at hdo 14 (by rfl)))
            clear hslot hoth hdo hcl hLi
            refine guard_on (j := 8) (want := false) (d := 34) (by rfl) (by rfl) gg ?_
            go_simp
            exact hK _ _ (flat_mark (hR.1) (fun _ _ h => h) hR.2 rfl)
        · intro b0 us wz L hslot hoth hLi hR hcl hdo K hK
          rcases HL.out with ⟨rfl, HN, HB2⟩
          · have s34 : b0.tmps.getD 34 undef = .bool false := (hslot 8 34 (by rfl)).trans (hR.2 8 (done_at hdo 8 (by rfl)))
            have s41 : b0.tmps.getD 41 undef = .bool false := (hslot 15 41 (by rfl)).trans (hR.2 15 (done_at hdo 15 (by rfl)))
            clear hslot hoth hdo hcl hLi
            refine guard_none (by rfl) ?_
            go_simp
            exact hK _ _ (flat_mark (hR.1) (fun _ _ h => h) hR.2 rfl)
      · intro us wn L hall hR a' ha'
        have g16 : us 16 = .bool false := by
          have := hR.2 16 (hall 16 (by decide))
          rcases HL.out with ⟨rfl, HN, HB2⟩
          all_goals exact this
        have HB := hid_of hR.1
        clear hR hall
        simp only [putAll, g16] at ha'
        subst ha'
        go_frame
        have HB9 := hid_of (below_more HB1.out HB.out)
        clear HL HB HRC HHG
        go_wp2
        go_ret
        exact ⟨by rw [HBV.out]; rfl, HB9.out⟩
    | false =>
      have HBW : b = false := by rw [HBB.out, hyz, hg0]; rfl
      replace hg0 : Holds9 (gAt r k) false := hg0
      clear hyz
      have HBV : Hid (b = false) := HBW
      clear HBW
      have HL : Hid (∃ l0 : List Value, l0 = [.slice (some p) 10 cap, .int .i64 k, .pointer (some q), .pointer (some q), .int .i64 y, .int .i64 h, .int .i64 z, .bool false, .bool false, .slice (some p) 10 cap, .int .i64 now, undef, .int .i64 k, undef, .bool false, .bool true, .bool true] ∧ Holds9 (y != z) false ∧ Holds9 (gAt r k) false) := ⟨_, rfl, hn0, hg0⟩
      obtain ⟨l0, HL1⟩ := HL.out
      have HL : Hid (l0 = [.slice (some p) 10 cap, .int .i64 k, .pointer (some q), .pointer (some q), .int .i64 y, .int .i64 h, .int .i64 z, .bool false, .bool false, .slice (some p) 10 cap, .int .i64 now, undef, .int .i64 k, undef, .bool false, .bool true, .bool true] ∧ Holds9 (y != z) false ∧ Holds9 (gAt r k) false) := HL1
      clear HL1
      go_wp2_with fail
      refine wp_region_whole (by kernel_rfl) (by kernel_rfl) (by kernel_rfl) (by kernel_rfl) (Flat (fun wz => Below W.heap.size W wz) (gGoodI r k l0)) (flat_start (below_draw _)) ?_ ?_
      · refine ⟨?_, ?_, ?_, ?_, ?_, ?_, ?_, ?_, ?_, ?_, ?_, ?_, ?_, ?_, ?_, ?_, ?_, trivial⟩
        · intro b0 us wz L hslot hoth hLi hR hcl hdo K hK
          rcases HL.out with ⟨rfl, HN, HB2⟩
          · have s0 : b0.tmps.getD 0 undef = .slice (some p) 10 cap := hoth 0 (by rfl)
            clear hslot hoth hdo hcl hLi
            refine guard_none (by rfl) ?_
            go_simp
            exact hK _ _ (flat_mark (hR.1) (fun _ _ h => h) hR.2 rfl)
        · intro b0 us wz L hslot hoth hLi hR hcl hdo K hK
          rcases HL.out with ⟨rfl, HN, HB2⟩
          · have s9 : b0.tmps.getD 9 undef = .int .i64 k := hoth 9 (by rfl)
            clear hslot hoth hdo hcl hLi
            refine guard_none (by rfl) ?_
            go_simp
            exact hK _ _ (flat_mark (hR.1) (fun _ _ h => h) hR.2 rfl)
        · intro b0 us wz L hslot hoth hLi hR hcl hdo K hK
          rcases HL.out with ⟨rfl, HN, HB2⟩
          · have s26 : b0.tmps.getD 26 undef = .slice (some p) 10 cap := (hslot 0 26 (by rfl)).trans (hR.2 0 (done_at hdo 0 (by rfl)))
            have s27 : b0.tmps.getD 27 undef = .int .i64 k := (hslot 1 27 (by rfl)).trans (hR.2 1 (done_at hdo 1 (by rfl)))
            have hq := HQ.out
            have hk10 : (k : Int) < 10 := HK10.out
            clear hslot hoth hdo hcl hLi
            refine guard_none (by rfl) ?_
            go_simp
            exact hK _ _ (flat_mark (hR.1) (fun _ _ h => h) hR.2 rfl)
        · intro b0 us wz L hslot hoth hLi hR hcl hdo K hK
          rcases HL.out with ⟨rfl, HN, HB2⟩
          · have s28 : b0.tmps.getD 28 undef = .pointer (some q) := (hslot 2 28 (by rfl)).trans (hR.2 2 (done_at hdo 2 (by rfl)))
            clear hslot hoth hdo hcl hLi
            refine guard_none (by rfl) ?_
            go_simp
            exact hK _ _ (flat_mark (hR.1) (fun _ _ h => h) hR.2 rfl)
        · intro b0 us wz L hslot hoth hLi hR hcl hdo K hK
          rcases HL.out with ⟨rfl, HN, HB2⟩
          · have s29 : b0.tmps.getD 29 undef = .pointer (some q) := (hslot 3 29 (by rfl)).trans (hR.2 3 (done_at hdo 3 (by rfl)))
            have k0 := (HCS.out.on hR.1).c0
            rw [HK0.out] at k0
            clear hslot hoth hdo hcl hLi
            refine guard_none (by rfl) ?_
            go_simp
            exact hK _ _ (flat_mark (hR.1) (fun _ _ h => h) hR.2 rfl)
        · intro b0 us wz L hslot hoth hLi hR hcl hdo K hK
          rcases HL.out with ⟨rfl, HN, HB2⟩
          · have s3 : b0.tmps.getD 3 undef = .int .i64 h := hoth 3 (by rfl)
            clear hslot hoth hdo hcl hLi
            refine guard_none (by rfl) ?_
            go_simp
            exact hK _ _ (flat_mark (hR.1) (fun _ _ h => h) hR.2 rfl)
        · intro b0 us wz L hslot hoth hLi hR hcl hdo K hK
          rcases HL.out with ⟨rfl, HN, HB2⟩
          · have s31 : b0.tmps.getD 31 undef = .int .i64 h := (hslot 5 31 (by rfl)).trans (hR.2 5 (done_at hdo 5 (by rfl)))
            clear hslot hoth hdo hcl hLi
            refine guard_none (by rfl) ?_
            go_simp
            refine (HHG.out wz).mono ?_
            rintro e w' ⟨rfl, rfl⟩
            exact hK _ _ (flat_mark (hR.1) (fun _ _ h => h) hR.2 rfl)
        · intro b0 us wz L hslot hoth hLi hR hcl hdo K hK
          rcases HL.out with ⟨rfl, HN, HB2⟩
          · have s30 : b0.tmps.getD 30 undef = .int .i64 y := (hslot 4 30 (by rfl)).trans (hR.2 4 (done_at hdo 4 (by rfl)))
            have s32 : b0.tmps.getD 32 undef = .int .i64 z := (hslot 6 32 (by rfl)).trans (hR.2 6 (done_at hdo 6 (by rfl)))
            have e7 : (y != z) = false := HN
            clear hslot hoth hdo hcl hLi
            refine guard_none (by rfl) ?_
            go_simp
            exact hK _ _ (flat_mark (hR.1) (fun _ _ h => h) hR.2 rfl)
        · intro b0 us wz L hslot hoth hLi hR hcl hdo K hK
          rcases HL.out with ⟨rfl, HN, HB2⟩
          · have s33 : b0.tmps.getD 33 undef = .bool false := (hslot 7 33 (by rfl)).trans (hR.2 7 (done_at hdo 7 (by rfl)))
            clear hslot hoth hdo hcl hLi
            refine guard_none (by rfl) ?_
            go_simp
            exact hK _ _ (flat_mark (hR.1) (fun _ _ h => h) hR.2 rfl)
        · intro b0 us wz L hslot hoth hLi hR hcl hdo K hK
          rcases HL.out with ⟨rfl, HN, HB2⟩
          · have gg : us 8 = .bool false := hR.2 8 (done_at hdo 8 (by rfl))
            have s0 : b0.tmps.getD 0 undef = .slice (some p) 10 cap := hoth 0 (by rfl)
            clear hslot hoth hdo hcl hLi
            refine guard_on (j := 8) (want := false) (d := 34) (by rfl) (by rfl) gg ?_
            go_simp
            exact hK _ _ (flat_mark (hR.1) (fun _ _ h => h) hR.2 rfl)
        · intro b0 us wz L hslot hoth hLi hR hcl hdo K hK
          rcases HL.out with ⟨rfl, HN, HB2⟩
          · have gg : us 8 = .bool false := hR.2 8 (done_at hdo 8 (by rfl))
            have s1 : b0.tmps.getD 1 undef = .int .i64 now := hoth 1 (by rfl)
            clear hslot hoth hdo hcl hLi
            refine guard_on (j := 8) (want := false) (d := 34) (by rfl) (by rfl) gg ?_
            go_simp
            exact hK _ _ (flat_mark (hR.1) (fun _ _ h => h) hR.2 rfl)
        · intro b0 us wz L hslot hoth hLi hR hcl hdo K hK
          rcases HL.out with ⟨rfl, HN, HB2⟩
          · have gg : us 8 = .bool false := hR.2 8 (done_at hdo 8 (by rfl))
            have s35 : b0.tmps.getD 35 undef = .slice (some p) 10 cap := (hslot 9 35 (by rfl)).trans (hR.2 9 (done_at hdo 9 (by rfl)))
            have s36 : b0.tmps.getD 36 undef = .int .i64 now := (hslot 10 36 (by rfl)).trans (hR.2 10 (done_at hdo 10 (by rfl)))
            clear hslot hoth hdo hcl hLi
            refine guard_on (j := 8) (want := false) (d := 34) (by rfl) (by rfl) gg ?_
            go_simp
            refine (HRC.out wz hR.1).mono ?_
            rintro e w' ⟨a9, n9, c9, rfl, hn9, hc9, hg9, hb9⟩
            obtain rfl : n9 = 10 := by rw [hn9]; exact HRL.out
            obtain ⟨g9, rfl, -, hbol9⟩ := hg9 (by omega)
            exact hK _ _ (flat_mark (below_more hR.1 hb9) (gGoodI_on hb9) hR.2 ⟨g9, c9, rfl, hc9, hbol9⟩)
        · intro b0 us wz L hslot hoth hLi hR hcl hdo K hK
          rcases HL.out with ⟨rfl, HN, HB2⟩
          · have gg : us 8 = .bool false := hR.2 8 (done_at hdo 8 (by rfl))
            have s9 : b0.tmps.getD 9 undef = .int .i64 k := hoth 9 (by rfl)
            clear hslot hoth hdo hcl hLi
            refine guard_on (j := 8) (want := false) (d := 34) (by rfl) (by rfl) gg ?_
            go_simp
            exact hK _ _ (flat_mark (hR.1) (fun _ _ h => h) hR.2 rfl)
        · intro b0 us wz L hslot hoth hLi hR hcl hdo K hK
          rcases HL.out with ⟨rfl, HN, HB2⟩
          · have gg : us 8 = .bool false := hR.2 8 (done_at hdo 8 (by rfl))
            obtain ⟨g, cg, hu, hcg, hbol⟩ := hR.2 11 (done_at hdo 11 (by rfl))
            have s37 : b0.tmps.getD 37 undef = .slice (some ⟨g, 0, none⟩) 10 cg := (hslot 11 37 (by rfl)).trans hu
            have s38 : b0.tmps.getD 38 undef = .int .i64 k := (hslot 12 38 (by rfl)).trans (hR.2 12 (done_at hdo 12 (by rfl)))
            have hk10 : (k : Int) < 10 := HK10.out
            clear hslot hoth hdo hcl hLi
            refine guard_on (j := 8) (want := false) (d := 34) (by rfl) (by rfl) gg ?_
            go_simp
            exact hK _ _ (flat_mark (hR.1) (fun _ _ h => h) hR.2 ⟨g, rfl, hbol⟩)
        · intro b0 us wz L hslot hoth hLi hR hcl hdo K hK
          rcases HL.out with ⟨rfl, HN, HB2⟩
          · have gg : us 8 = .bool false := hR.2 8 (done_at hdo 8 (by rfl))
            obtain ⟨g, hu, hbol⟩ := hR.2 13 (done_at hdo 13 (by rfl))
            have s39 : b0.tmps.getD 39 undef = .pointer (some ⟨g, k, none⟩) := (hslot 13 39 (by rfl)).trans hu
            have kR := (hbol.cell k (by rw [HRL.out]; exact HKN.out)).trans (congrArg (fun b => some (Value.bool b)) HB2)
            clear hslot hoth hdo hcl hLi
            refine guard_on (j := 8) (want := false) (d := 34) (by rfl) (by rfl) gg ?_
            go_simp
            exact hK _ _ (flat_mark (hR.1) (fun _ _ h => h) hR.2 rfl)
        · intro b0 us wz L hslot hoth hLi hR hcl hdo K hK
          rcases HL.out with ⟨rfl, HN, HB2⟩
          · have gg : us 8 = .bool false := hR.2 8 (done_at hdo 8 (by rfl))
            have s40 : b0.tmps.getD 40 undef = .bool false := (hslot 14 40 (by rfl)).trans (hR.2 14 (done_at hdo 14 (by rfl)))
            clear hslot hoth hdo hcl hLi
            refine guard_on (j := 8) (want := false) (d := 34) (by rfl) (by rfl) gg ?_
            go_simp
            exact hK _ _ (flat_mark (hR.1) (fun _ _ h => h) hR.2 rfl)
        · intro b0 us wz L hslot hoth hLi hR hcl hdo K hK
          rcases HL.out with ⟨rfl, HN, HB2⟩
          · have s34 : b0.tmps.getD 34 undef = .bool false := (hslot 8 34 (by rfl)).trans (hR.2 8 (done_at hdo 8 (by rfl)))
            have s41 : b0.tmps.getD 41 undef = .bool true := (hslot 15 41 (by rfl)).trans (hR.2 15 (done_at hdo 15 (by rfl)))
            clear hslot hoth hdo hcl hLi
            refine guard_none (by rfl) ?_
            go_simp
            exact hK _ _ (flat_mark (hR.1) (fun _ _ h => h) hR.2 rfl)
      · intro us wn L hall hR a' ha'
        have g16 : us 16 = .bool true := by
          have := hR.2 16 (hall 16 (by decide))
          rcases HL.out with ⟨rfl, HN, HB2⟩
          all_goals exact this
        have HB := hid_of hR.1
        clear hR hall
        simp only [putAll, g16] at ha'
        subst ha'
        go_frame
        have HB9 := hid_of (below_more HB1.out HB.out)
        clear HL HB HRC HHG
        go_wp2
        go_ret
        exact ⟨by rw [HBV.out]; rfl, HB9.out⟩
set_option maxHeartbeats 4000000 in
theorem implGood_any (v : Value) (os : List Ob) (now part h : Int) (w : World) (hx : IsArena w v os) (hn : os.length ≤ 1048576) (hs : Small8 os) :
    Calls Try.prog 12 #[v, .int .i64 now, .int .i64 part, .int .i64 h] w fun e w' => e = .returned (.int .i64 (goodOf os now part h)) ∧ Below w.heap.size w w' := by
  have CA := implArenaOk_any _ os w hx hn hs
  have CH : ∀ w, Calls Try.prog 29 #[.int .i64 h] w fun e w' => e = .returned (.bool (isHandle h)) ∧ w = w' := isHandleI_b h
  have HCP := hid_of (implHandlePart_any h)
  cases hok : arenaOk os with
  | false =>
    have e1 : goodOf os now part h = -1 := by unfold goodOf; rw [hok]; rfl
    rw [e1]
    rw [hok] at CA
    clear hok e1 hx CH HCP
    go_enter Try.func12, Try.ntmps12
    go_wp2_with fail
    refine CA.mono ?_
    rintro e w1 ⟨rfl, hb⟩
    clear CA
    go_wp2
    go_ret
    exact ⟨rfl, hb⟩
  | true =>
    cases hh : isHandle h with
    | false =>
      have e1 : goodOf os now part h = -1 := by unfold goodOf; rw [hok, hh]; rfl
      rw [e1]
      rw [hok] at CA
      simp only [hh] at CH
      clear hok e1 hx HCP hh
      go_enter Try.func12, Try.ntmps12
      go_wp2_with fail
      refine CA.mono ?_
      rintro e w1 ⟨rfl, hb⟩
      clear CA
      go_wp2_with fail
      refine (CH _).mono ?_
      rintro e w2 ⟨rfl, rfl⟩
      clear CH
      go_wp2
      go_ret
      exact ⟨rfl, hb⟩
    | true =>
      by_cases hp : handlePart h = part
      · have hsl := slot_in hh
        obtain ⟨k, hk⟩ : ∃ k : Nat, handleSlot h = k := ⟨(handleSlot h).toNat, by omega⟩
        have hlen := (arenaOk_parts hok).1
        have e1 : goodOf os now part h = ansK (((obAt os k).gen == handleGen h) && gAt (reached (ledB os now)) k) k := by
          unfold goodOf ansK
          rw [hok, hh, hk, hp, Int.toNat_natCast]
          simp
        rw [e1]
        obtain ⟨a, cap, rfl, _, hel⟩ := id hx
        obtain ⟨p, _, _, _, rfl, _⟩ := hel 0 (by omega)
        rw [hlen] at hx ⊢
        exact implGood_go p cap os now part h k _ w hx hok hs hh hp hk (by omega) rfl
      · have e1 : goodOf os now part h = -1 := by unfold goodOf; rw [hok, hh, beq_eq_false_iff_ne.2 hp]; rfl
        rw [e1]
        rw [hok] at CA
        simp only [hh] at CH
        have hpp : (handlePart h != part) = true := by simp [bne, beq_eq_false_iff_ne.2 hp]
        generalize handlePart h = pp at HCP hpp
        clear hok e1 hx hp hh
        go_enter Try.func12, Try.ntmps12
        go_wp2_with fail
        refine CA.mono ?_
        rintro e w1 ⟨rfl, hb⟩
        clear CA
        go_wp2_with fail
        refine (CH _).mono ?_
        rintro e w2 ⟨rfl, rfl⟩
        clear CH
        go_wp2_with fail
        refine (HCP.out _).mono ?_
        rintro e w2 ⟨rfl, rfl⟩
        go_wp2
        go_ret
        exact ⟨rfl, hb⟩
end Go.Proofs.Ytokicnopfmokaaa
