/-
  Regions that draw, by phases: what an operation left may hold only until another is done. Regions that draw, by one relation over all that has been done. A region in its own order, by one relation over all that has been done; and values that hang on a Bool.
-/
import Derived.Test.YtfcenombphodbaaDoorInv2
namespace Go.Proofs.YtfcenombphodbaaDoor
open Go.RowKit
set_option linter.unusedVariables false
set_option maxRecDepth 100000

/-- What must come first has been done. -/
def done (L : Nat → Bool) (o : Oper) : Bool := o.after.all fun e => !Region.binds .any e || L e.on
theorem done_mark {L : Nat → Bool} {o : Oper} (h : done L o = true) (i : Nat) : done (markd L i) o = true := by
  unfold done at h ⊢
  rw [Array.all_eq_true] at h ⊢
  intro k hk
  have := h k hk
  rw [Bool.or_eq_true] at this ⊢
  rcases this with h1 | h1
  · exact .inl h1
  · right
    unfold markd
    split
    · rfl
    · exact h1
theorem done_at {L : Nat → Bool} {o : Oper} (h : done L o = true) (j : Nat) (hj : (o.after.toList.any fun e => Region.binds .any e && e.on == j) = true) : L j = true := by
  unfold done at h
  rw [List.any_eq_true] at hj
  obtain ⟨e, he, hb⟩ := hj
  rw [Bool.and_eq_true] at hb
  have h2 : (o.after.toList.all fun e => !Region.binds .any e || L e.on) = true := by simpa using h
  rw [List.all_eq_true] at h2
  have := h2 e he
  rw [hb.1] at this
  obtain rfl : e.on = j := by simpa using hb.2
  simpa using this
/-- One operation. -/
def PhaseOp (P : Program) (ops : Array Oper) (Q : Exit → Act → World → Prop) (a : Act) (Base : World → Prop) (G : (Nat → Bool) → Nat → Value → World → Prop) (o : Oper) (i : Nat) : Prop :=
  ∀ (b : Act) (us : Nat → Value) (w : World) (L : Nat → Bool), (∀ k d, dstAt ops.toList k = some d → b.tmps.getD d undef = us k) → (∀ d, isDst ops.toList d = false → b.tmps.getD d undef = a.tmps.getD d undef) → Base w → L i = false →
    (∀ j, L j = true → G L j (us j) w) → (∀ j o, ops[j]? = some o → L j = true → done L o = true) → done L o = true →
    ∀ K : Act → World → Prop, (∀ v w', Base w' → G (markd L i) i v w' → (∀ j, j ≠ i → L j = true → G (markd L i) j (us j) w') → K (b.put o.dst v) w') →
      if Region.wanted o (yieldUs ops us) = true then Oper.wp P o b w K Q else K (b.put o.dst undef) w
def PhaseAll (P : Program) (ops : Array Oper) (Q : Exit → Act → World → Prop) (a : Act) (Base : World → Prop) (G : (Nat → Bool) → Nat → Value → World → Prop) : List Oper → Nat → Prop
  | [], _ => True
  | o :: r, i => PhaseOp P ops Q a Base G o i ∧ PhaseAll P ops Q a Base G r (i + 1)
theorem phaseAll_at {P : Program} {ops : Array Oper} {Q : Exit → Act → World → Prop} {a : Act} {Base : World → Prop} {G : (Nat → Bool) → Nat → Value → World → Prop} : ∀ (l : List Oper) (k i : Nat) (o : Oper), PhaseAll P ops Q a Base G l k → l[i]? = some o → PhaseOp P ops Q a Base G o (k + i)
  | [], _, _, _, _, h => by simp at h
  | x :: r, k, 0, o, hk, h => by
    obtain rfl : x = o := by simpa using h
    exact hk.1
  | x :: r, k, i + 1, o, hk, h => by
    have := phaseAll_at r (k + 1) i o hk.2 (by simpa using h)
    rw [show k + (i + 1) = k + 1 + i by omega]
    exact this
theorem wp_region_phase {P : Program} {ops : Array Oper} {Q : Exit → Act → World → Prop} {id : Nat} {a : Act} {w : World} (hm : P.follows .mixedOrders = true) (hd : edgesDown2 ops = true) (ha : dstsApart ops.toList = true) (hz : dstsIn ops.toList a.tmps.size = true)
    (Base : World → Prop) (G : (Nat → Bool) → Nat → Value → World → Prop) (h0 : Base w.drew) (hstep : PhaseAll P ops Q a Base G ops.toList 0)
    (hend : ∀ us w' L, (∀ i, i < ops.size → L i = true) → Base w' → (∀ j, j < ops.size → G L j (us j) w') → ∀ a', a' = putAll a ops.toList us 0 → Q .normal a' w') : (Code.region id ops true).wp P Q a w := by
  refine wp_region_inv2 hm hd (fun L a' w' => Base w' ∧ (∀ j o, ops[j]? = some o → L j = true → done L o = true) ∧ ∃ us, a' = putAll a ops.toList us 0 ∧ ∀ j, L j = true → G L j (us j) w') ?_ ?_ ?_
  · refine ⟨h0, fun j o _ hj => absurd hj Bool.false_ne_true, fun j => (match ops.toList[j]? with | some o => (match o.dst with | some d => a.tmps.getD d undef | none => undef) | none => undef), ?_, fun j hj => absurd hj Bool.false_ne_true⟩
    exact (putAll_old _ a _ 0 ha fun j o ho => by simp only [Nat.zero_add]; rw [ho]; rfl).symm
  · intro i hi o ho L a' w' hLi hdeps hinv K hK
    obtain ⟨hB, hcl, us, rfl, hG⟩ := hinv
    have hop := phaseAll_at ops.toList 0 i o hstep (by simpa using ho)
    rw [Nat.zero_add] at hop
    have := hop (putAll a ops.toList us 0) us w' L (fun k d hd => by have := putAll_at ops.toList a us 0 k d ha hz hd; rw [Nat.zero_add] at this; exact this) (fun d hd => putAll_not ops.toList a us 0 d hd) hB hLi hG hcl hdeps K ?_
    · rw [yield_us ops a us ha hz]
      exact this
    · intro v w'' hB' hgi hgo
      refine hK _ w'' ⟨hB', ?_, useAt us i v, ?_, ?_⟩
      · intro j o' ho' hj
        by_cases h : j = i
        · subst h
          obtain rfl : o' = o := by rw [ho] at ho'; exact (Option.some.inj ho').symm
          exact done_mark hdeps _
        · rw [markd_other L h] at hj
          exact done_mark (hcl j o' ho' hj) _
      · rw [putAll_use ops.toList a us 0 i o v ha (by simpa using ho), Nat.zero_add]
      · intro j hj
        unfold useAt
        by_cases h : j = i
        · rw [if_pos h, h]; exact hgi
        · rw [if_neg h]
          rw [markd_other L h] at hj
          exact hgo j h hj
  · rintro L a' w' hall ⟨hB, _, us, rfl, hG⟩
    exact hend us w' L hall hB (fun j hj => hG j (hall j hj)) _ rfl
end Go.Proofs.YtfcenombphodbaaDoor
namespace Go.Proofs.YtfcenombphodbaaDoor
open Go.RowKit
set_option linter.unusedVariables false
set_option maxRecDepth 100000

/-- One operation. -/
def WholeOp (P : Program) (ops : Array Oper) (Q : Exit → Act → World → Prop) (a : Act) (R : (Nat → Bool) → (Nat → Value) → World → Prop) (o : Oper) (i : Nat) : Prop :=
  ∀ (b : Act) (us : Nat → Value) (w : World) (L : Nat → Bool), (∀ k d, dstAt ops.toList k = some d → b.tmps.getD d undef = us k) → (∀ d, isDst ops.toList d = false → b.tmps.getD d undef = a.tmps.getD d undef) → L i = false →
    R L us w → (∀ j o, ops[j]? = some o → L j = true → done L o = true) → done L o = true →
    ∀ K : Act → World → Prop, (∀ v w', R (markd L i) (useAt us i v) w' → K (b.put o.dst v) w') →
      if Region.wanted o (yieldUs ops us) = true then Oper.wp P o b w K Q else K (b.put o.dst undef) w
def WholeAll (P : Program) (ops : Array Oper) (Q : Exit → Act → World → Prop) (a : Act) (R : (Nat → Bool) → (Nat → Value) → World → Prop) : List Oper → Nat → Prop
  | [], _ => True
  | o :: r, i => WholeOp P ops Q a R o i ∧ WholeAll P ops Q a R r (i + 1)
theorem wholeAll_at {P : Program} {ops : Array Oper} {Q : Exit → Act → World → Prop} {a : Act} {R : (Nat → Bool) → (Nat → Value) → World → Prop} : ∀ (l : List Oper) (k i : Nat) (o : Oper), WholeAll P ops Q a R l k → l[i]? = some o → WholeOp P ops Q a R o (k + i)
  | [], _, _, _, _, h => by simp at h
  | x :: r, k, 0, o, hk, h => by
    obtain rfl : x = o := by simpa using h
    exact hk.1
  | x :: r, k, i + 1, o, hk, h => by
    have := wholeAll_at r (k + 1) i o hk.2 (by simpa using h)
    rw [show k + (i + 1) = k + 1 + i by omega]
    exact this
theorem wp_region_whole {P : Program} {ops : Array Oper} {Q : Exit → Act → World → Prop} {id : Nat} {a : Act} {w : World} (hm : P.follows .mixedOrders = true) (hd : edgesDown2 ops = true) (ha : dstsApart ops.toList = true) (hz : dstsIn ops.toList a.tmps.size = true)
    (R : (Nat → Bool) → (Nat → Value) → World → Prop) (h0 : ∀ us, R (fun _ => false) us w.drew) (hstep : WholeAll P ops Q a R ops.toList 0)
    (hend : ∀ us w' L, (∀ i, i < ops.size → L i = true) → R L us w' → ∀ a', a' = putAll a ops.toList us 0 → Q .normal a' w') : (Code.region id ops true).wp P Q a w := by
  refine wp_region_inv2 hm hd (fun L a' w' => (∀ j o, ops[j]? = some o → L j = true → done L o = true) ∧ ∃ us, a' = putAll a ops.toList us 0 ∧ R L us w') ?_ ?_ ?_
  · refine ⟨fun j o _ hj => absurd hj Bool.false_ne_true, fun j => (match ops.toList[j]? with | some o => (match o.dst with | some d => a.tmps.getD d undef | none => undef) | none => undef), ?_, h0 _⟩
    exact (putAll_old _ a _ 0 ha fun j o ho => by simp only [Nat.zero_add]; rw [ho]; rfl).symm
  · intro i hi o ho L a' w' hLi hdeps hinv K hK
    obtain ⟨hcl, us, rfl, hR⟩ := hinv
    have hop := wholeAll_at ops.toList 0 i o hstep (by simpa using ho)
    rw [Nat.zero_add] at hop
    have := hop (putAll a ops.toList us 0) us w' L (fun k d hd => by have := putAll_at ops.toList a us 0 k d ha hz hd; rw [Nat.zero_add] at this; exact this) (fun d hd => putAll_not ops.toList a us 0 d hd) hLi hR hcl hdeps K ?_
    · rw [yield_us ops a us ha hz]
      exact this
    · intro v w'' hR'
      refine hK _ w'' ⟨?_, useAt us i v, ?_, hR'⟩
      · intro j o' ho' hj
        by_cases h : j = i
        · subst h
          obtain rfl : o' = o := by rw [ho] at ho'; exact (Option.some.inj ho').symm
          exact done_mark hdeps _
        · rw [markd_other L h] at hj
          exact done_mark (hcl j o' ho' hj) _
      · rw [putAll_use ops.toList a us 0 i o v ha (by simpa using ho), Nat.zero_add]
  · rintro L a' w' hall ⟨_, us, rfl, hR⟩
    exact hend us w' L hall hR _ rfl

theorem use_same (us : Nat → Value) (i : Nat) (v : Value) : useAt us i v i = v := by simp [useAt]
theorem use_other (us : Nat → Value) {i j : Nat} (v : Value) (h : j ≠ i) : useAt us i v j = us j := by simp [useAt, h]
/-- A base that stays, and what each operation left. -/
def Flat (Base : World → Prop) (G : Nat → Value → World → Prop) (L : Nat → Bool) (us : Nat → Value) (w : World) : Prop := Base w ∧ ∀ j, L j = true → G j (us j) w
theorem flat_start {Base : World → Prop} {G : Nat → Value → World → Prop} {w : World} (h : Base w) (us : Nat → Value) : Flat Base G (fun _ => false) us w := ⟨h, fun _ hj => by cases hj⟩
theorem flat_mark {Base : World → Prop} {G : Nat → Value → World → Prop} {L : Nat → Bool} {us : Nat → Value} {w w' : World} {i : Nat} {v : Value} (hB : Base w') (hk : ∀ j u, G j u w → G j u w') (hG : ∀ j, L j = true → G j (us j) w) (hi : G i v w') : Flat Base G (markd L i) (useAt us i v) w' :=
  ⟨hB, fun j hj => by
    by_cases h : j = i
    · subst h; rw [use_same]; exact hi
    · rw [markd_other L h] at hj; rw [use_other us v h]; exact hk _ _ (hG j hj)⟩
/-- Each operation leaves a value that is known. -/
def gVals (vs : List Value) (j : Nat) (u : Value) (_ : World) : Prop := u = vs.getD j undef
/-- The same, where one operation turns the base. -/
def FlatL (n : Nat) (Base : Bool → World → Prop) (G : Nat → Value → World → Prop) (L : Nat → Bool) (us : Nat → Value) (w : World) : Prop := Base (L n) w ∧ ∀ j, L j = true → G j (us j) w
theorem flatL_start {n : Nat} {Base : Bool → World → Prop} {G : Nat → Value → World → Prop} {w : World} (h : Base false w) (us : Nat → Value) : FlatL n Base G (fun _ => false) us w := ⟨h, fun _ hj => by cases hj⟩
theorem flatL_mark {n : Nat} {Base : Bool → World → Prop} {G : Nat → Value → World → Prop} {L : Nat → Bool} {us : Nat → Value} {w w' : World} {i : Nat} {v : Value} (hin : i ≠ n) (hB : Base (L n) w') (hk : ∀ j u, G j u w → G j u w') (hG : ∀ j, L j = true → G j (us j) w) (hi : G i v w') : FlatL n Base G (markd L i) (useAt us i v) w' :=
  ⟨by rw [markd_other L (fun e => hin e.symm)]; exact hB, (flat_mark (Base := fun _ => True) trivial hk hG hi).2⟩
theorem flatL_last {n : Nat} {Base : Bool → World → Prop} {G : Nat → Value → World → Prop} {L : Nat → Bool} {us : Nat → Value} {w w' : World} {v : Value} (hB : Base true w') (hk : ∀ j u, G j u w → G j u w') (hG : ∀ j, L j = true → G j (us j) w) (hi : G n v w') : FlatL n Base G (markd L n) (useAt us n v) w' :=
  ⟨by rw [markd_same]; exact hB, (flat_mark (Base := fun _ => True) trivial hk hG hi).2⟩
end Go.Proofs.YtfcenombphodbaaDoor
namespace Go.Proofs.YtfcenombphodbaaDoor
open Go.RowKit
set_option linter.unusedVariables false
set_option maxRecDepth 100000

theorem wpList_whole {P : Program} {ops : Array Oper} {Q : Exit → Act → World → Prop} {a : Act} {R : (Nat → Bool) → (Nat → Value) → World → Prop} (hd : edgesDown2 ops = true) (ha : dstsApart ops.toList = true) (hz : dstsIn ops.toList a.tmps.size = true) (hall : WholeAll P ops Q a R ops.toList 0)
    (hend : ∀ us w' L, (∀ i, i < ops.size → L i = true) → R L us w' → ∀ a', a' = putAll a ops.toList us 0 → Q .normal a' w') :
    ∀ (l : List Oper) (k : Nat), (∀ j, l[j]? = ops.toList[k + j]?) → ∀ (us : Nat → Value) (w : World) (L : Nat → Bool), (∀ j, j < k → L j = true) → (∀ j, k ≤ j → L j = false) → R L us w → wpList P ops Q l (putAll a ops.toList us 0) w
  | [], k, hl, us, w, L, h1, h2, hR => by
    refine wpList_nil (hend us w L (fun j hj => h1 j ?_) hR _ rfl)
    have := hl 0
    simp only [List.getElem?_nil, Nat.add_zero] at this
    have hle := List.getElem?_eq_none_iff.1 this.symm
    simp at hle
    omega
  | o :: r, k, hl, us, w, L, h1, h2, hR => by
    have hok : ops.toList[k]? = some o := by have := hl 0; simpa using this.symm
    have hok' : ops[k]? = some o := by simpa using hok
    have hr : ∀ j, r[j]? = ops.toList[k + 1 + j]? := fun j => by
      have := hl (j + 1)
      rw [show k + 1 + j = k + (j + 1) by omega]
      simpa using this
    have hkz : k < ops.size := by
      have := (List.getElem?_eq_some_iff.1 hok).1
      simpa using this
    have hdone : ∀ j o', ops[j]? = some o' → j ≤ k → done L o' = true := by
      intro j o' ho' hj
      unfold done
      rw [Array.all_eq_true]
      intro e he
      have hjz : j < ops.size := by omega
      have hdn := List.all_eq_true.1 hd j (List.mem_range.2 hjz)
      rw [ho'] at hdn
      have hlt := Array.all_eq_true.1 hdn e he
      cases hbk : Region.binds .any o'.after[e] with
      | false => rfl
      | true =>
        rw [hbk] at hlt
        have hlt' : o'.after[e].on < j := by simpa using hlt
        rw [h1 _ (by omega)]
        rfl
    have hop := wholeAll_at ops.toList 0 k o hall hok
    rw [Nat.zero_add] at hop
    have := hop (putAll a ops.toList us 0) us w L (fun i d hd' => by have := putAll_at ops.toList a us 0 i d ha hz hd'; rw [Nat.zero_add] at this; exact this) (fun d hd' => putAll_not ops.toList a us 0 d hd') (h2 k (Nat.le_refl _)) hR (fun j o' ho' hj => hdone j o' ho' (by
      rcases Nat.lt_or_ge j k with h | h
      · omega
      · rw [h2 j h] at hj; cases hj)) (hdone k o hok' (Nat.le_refl _)) (wpList P ops Q r) ?_
    · rw [← yield_us ops a us ha hz] at this
      unfold wpList
      split
      · rename_i hw
        rw [if_pos hw] at this
        exact Or.inl this
      · rename_i hw
        rw [if_neg hw] at this
        exact this
    · intro v w' hR'
      rw [putAll_use ops.toList a us 0 k o v ha hok, Nat.zero_add]
      refine wpList_whole hd ha hz hall hend r (k + 1) hr _ w' (markd L k) ?_ ?_ hR'
      · intro j hj
        by_cases h : j = k
        · subst h; exact markd_same _ _
        · rw [markd_other L h]; exact h1 j (by omega)
      · intro j hj
        rw [markd_other L (by omega)]; exact h2 j (by omega)
/-- A region that doesn't draw. -/
theorem wp_region_wholeL {P : Program} {ops : Array Oper} {Q : Exit → Act → World → Prop} {id : Nat} {a : Act} {w : World} (hd : edgesDown2 ops = true) (ha : dstsApart ops.toList = true) (hz : dstsIn ops.toList a.tmps.size = true)
    (R : (Nat → Bool) → (Nat → Value) → World → Prop) (h0 : ∀ us, R (fun _ => false) us w) (hstep : WholeAll P ops Q a R ops.toList 0)
    (hend : ∀ us w' L, (∀ i, i < ops.size → L i = true) → R L us w' → ∀ a', a' = putAll a ops.toList us 0 → Q .normal a' w') : (Code.region id ops false).wp P Q a w := by
  refine wp_region_list ?_
  have h1 : putAll a ops.toList (fun j => (match ops.toList[j]? with | some o => (match o.dst with | some d => a.tmps.getD d undef | none => undef) | none => undef)) 0 = a :=
    putAll_old _ a _ 0 ha fun j o ho => by simp only [Nat.zero_add]; rw [ho]; rfl
  have h2 := wpList_whole (Q := Q) hd ha hz hstep hend ops.toList 0 (fun j => by rw [Nat.zero_add]) (fun j => (match ops.toList[j]? with | some o => (match o.dst with | some d => a.tmps.getD d undef | none => undef) | none => undef)) w (fun _ => false) (fun j hj => absurd hj (Nat.not_lt_zero j)) (fun _ _ => rfl) (h0 _)
  rw [h1] at h2
  exact h2
/-- Each operation leaves a value that is known, where a Bool is known. -/
def gPick (o : Bool) (ts fs : List Value) (j : Nat) (u : Value) (_ : World) : Prop := u = (match o with | true => ts | false => fs).getD j undef
end Go.Proofs.YtfcenombphodbaaDoor
