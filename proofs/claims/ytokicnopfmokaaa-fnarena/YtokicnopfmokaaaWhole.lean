/-
  Regions that draw, by one relation over all that has been done.
-/
import Derived.Test.YtokicnopfmokaaaPhase
namespace Go.Proofs.Ytokicnopfmokaaa
open Go.RowKit
set_option linter.unusedVariables false
set_option maxRecDepth 100000

/-- One operation. -/
def WholeOp (P : Program) (ops : Array Oper) (Q : Exit → Act → World → Prop) (a : Act) (R : (Nat → Bool) → (Nat → Value) → World → Prop) (o : Oper) (i : Nat) : Prop :=
  ∀ (b : Act) (us : Nat → Value) (w : World) (L : Nat → Bool), (∀ k d, dstAt ops.toList k = some d → b.tmps.getD d undef = us k) → (∀ d, isDst ops.toList d = false → b.tmps.getD d undef = a.tmps.getD d undef) → L i = false →
    R L us w → (∀ j o, ops[j]? = some o → L j = true → done L o = true) → done L o = true →
    ∀ K : Act → World → Prop, (∀ v w', R (markd L i) (useAt us i v) w' → K (b.put o.dst v) w') →
      if Region.wanted o (yieldUs ops us) = true then Oper.wp P o b w K Q else K (b.put o.dst undef) w
def WholeAll (P : Program) (ops : Array Oper) (Q : Exit → Act → World → Prop) (a : Act) (R : (Nat → Bool) → (Nat → Value) → World → Prop) : List Oper → Nat → Prop
  | [], _ => True
  | o :: r, i => WholeOp P ops Q a R o i ∧ WholeAll P ops Q a R r (i + 1)
theorem wholeAll_at {P : Program} {ops : Array Oper} {Q : Exit → Act → World → Prop} {a : Act} {R : (Nat → Bool) → (Nat → Value) → World → Prop} : ∀ (l : List Oper) (k i : Nat) (o : Oper), WholeAll P ops Q a R l k → l[i]? = some o → WholeOp P ops Q a R o (k + i)
  | [], _, _, _, _, h => by simp at h
  | x :: r, k, 0, o, hk, h => by
    obtain rfl : x = o := by simpa using h
    exact hk.1
  | x :: r, k, i + 1, o, hk, h => by
    have := wholeAll_at r (k + 1) i o hk.2 (by simpa using h)
    rw [show k + (i + 1) = k + 1 + i by omega]
    exact this
theorem wp_region_whole {P : Program} {ops : Array Oper} {Q : Exit → Act → World → Prop} {id : Nat} {a : Act} {w : World} (hm : P.follows .mixedOrders = true) (hd : edgesDown2 ops = true) (ha : dstsApart ops.toList = true) (hz : dstsIn ops.toList a.tmps.size = true)
    (R : (Nat → Bool) → (Nat → Value) → World → Prop) (h0 : ∀ us, R (fun _ => false) us w.drew) (hstep : WholeAll P ops Q a R ops.toList 0)
    (hend : ∀ us w' L, (∀ i, i < ops.size → L i = true) → R L us w' → ∀ a', a' = putAll a ops.toList us 0 → Q .normal a' w') : (Code.region id ops true).wp P Q a w := by
  refine wp_region_inv2 hm hd (fun L a' w' => (∀ j o, ops[j]? = some o → L j = true → done L o = true) ∧ ∃ us, a' = putAll a ops.toList us 0 ∧ R L us w') ?_ ?_ ?_
  · refine ⟨fun j o _ hj => absurd hj Bool.false_ne_true, fun j => (match ops.toList[j]? with | some o => (match o.dst with | some d => a.tmps.getD d undef | none => undef) | none => undef), ?_, h0 _⟩
    exact (putAll_old _ a _ 0 ha fun j o ho => by simp only [Nat.zero_add]; rw [ho]; rfl).symm
  · intro i hi o ho L a' w' hLi hdeps hinv K hK
    obtain ⟨hcl, us, rfl, hR⟩ := hinv
    have hop := wholeAll_at ops.toList 0 i o hstep (by simpa using ho)
    rw [Nat.zero_add] at hop
    have := hop (putAll a ops.toList us 0) us w' L (fun k d hd => by have := putAll_at ops.toList a us 0 k d ha hz hd; rw [Nat.zero_add] at this; exact this) (fun d hd => putAll_not ops.toList a us 0 d hd) hLi hR hcl hdeps K ?_
    · rw [yield_us ops a us ha hz]
      exact this
    · intro v w'' hR'
      refine hK _ w'' ⟨?_, useAt us i v, ?_, hR'⟩
      · intro j o' ho' hj
        by_cases h : j = i
        · subst h
          obtain rfl : o' = o := by rw [ho] at ho'; exact (Option.some.inj ho').symm
          exact done_mark hdeps _
        · rw [markd_other L h] at hj
          exact done_mark (hcl j o' ho' hj) _
      · rw [putAll_use ops.toList a us 0 i o v ha (by simpa using ho), Nat.zero_add]
  · rintro L a' w' hall ⟨_, us, rfl, hR⟩
    exact hend us w' L hall hR _ rfl

theorem use_same (us : Nat → Value) (i : Nat) (v : Value) : useAt us i v i = v := by simp [useAt]
theorem use_other (us : Nat → Value) {i j : Nat} (v : Value) (h : j ≠ i) : useAt us i v j = us j := by simp [useAt, h]
/-- A base that stays, and what each operation left. -/
def Flat (Base : World → Prop) (G : Nat → Value → World → Prop) (L : Nat → Bool) (us : Nat → Value) (w : World) : Prop := Base w ∧ ∀ j, L j = true → G j (us j) w
theorem flat_start {Base : World → Prop} {G : Nat → Value → World → Prop} {w : World} (h : Base w) (us : Nat → Value) : Flat Base G (fun _ => false) us w := ⟨h, fun _ hj => by cases hj⟩
theorem flat_mark {Base : World → Prop} {G : Nat → Value → World → Prop} {L : Nat → Bool} {us : Nat → Value} {w w' : World} {i : Nat} {v : Value} (hB : Base w') (hk : ∀ j u, G j u w → G j u w') (hG : ∀ j, L j = true → G j (us j) w) (hi : G i v w') : Flat Base G (markd L i) (useAt us i v) w' :=
  ⟨hB, fun j hj => by
    by_cases h : j = i
    · subst h; rw [use_same]; exact hi
    · rw [markd_other L h] at hj; rw [use_other us v h]; exact hk _ _ (hG j hj)⟩
/-- Each operation leaves a value that is known. -/
def gVals (vs : List Value) (j : Nat) (u : Value) (_ : World) : Prop := u = vs.getD j undef
/-- The same, where one operation turns the base. -/
def FlatL (n : Nat) (Base : Bool → World → Prop) (G : Nat → Value → World → Prop) (L : Nat → Bool) (us : Nat → Value) (w : World) : Prop := Base (L n) w ∧ ∀ j, L j = true → G j (us j) w
theorem flatL_start {n : Nat} {Base : Bool → World → Prop} {G : Nat → Value → World → Prop} {w : World} (h : Base false w) (us : Nat → Value) : FlatL n Base G (fun _ => false) us w := ⟨h, fun _ hj => by cases hj⟩
theorem flatL_mark {n : Nat} {Base : Bool → World → Prop} {G : Nat → Value → World → Prop} {L : Nat → Bool} {us : Nat → Value} {w w' : World} {i : Nat} {v : Value} (hin : i ≠ n) (hB : Base (L n) w') (hk : ∀ j u, G j u w → G j u w') (hG : ∀ j, L j = true → G j (us j) w) (hi : G i v w') : FlatL n Base G (markd L i) (useAt us i v) w' :=
  ⟨by rw [markd_other L (fun e => hin e.symm)]; exact hB, (flat_mark (Base := fun _ => True) trivial hk hG hi).2⟩
theorem flatL_last {n : Nat} {Base : Bool → World → Prop} {G : Nat → Value → World → Prop} {L : Nat → Bool} {us : Nat → Value} {w w' : World} {v : Value} (hB : Base true w') (hk : ∀ j u, G j u w → G j u w') (hG : ∀ j, L j = true → G j (us j) w) (hi : G n v w') : FlatL n Base G (markd L n) (useAt us n v) w' :=
  ⟨by rw [markd_same]; exact hB, (flat_mark (Base := fun _ => True) trivial hk hG hi).2⟩
end Go.Proofs.Ytokicnopfmokaaa
