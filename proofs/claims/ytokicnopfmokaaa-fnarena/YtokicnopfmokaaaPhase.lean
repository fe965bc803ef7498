/-
  Regions that draw, by phases: what an operation left may hold only until another is done.
-/
import Derived.Test.YtokicnopfmokaaaInv2
namespace Go.Proofs.Ytokicnopfmokaaa
open Go.RowKit
set_option linter.unusedVariables false
set_option maxRecDepth 100000

/-- What must come first has been done. -/
def done (L : Nat → Bool) (o : Oper) : Bool := o.after.all fun e => !Region.binds .any e || L e.on
theorem done_mark {L : Nat → Bool} {o : Oper} (h : done L o = true) (i : Nat) : done (markd L i) o = true := by
  unfold done at h ⊢
  rw [Array.all_eq_true] at h ⊢
  intro k hk
  have := h k hk
  rw [Bool.or_eq_true] at this ⊢
  rcases this with h1 | h1
  · exact .inl h1
  · right
    unfold markd
    split
    · rfl
    · exact h1
theorem done_at {L : Nat → Bool} {o : Oper} (h : done L o = true) (j : Nat) (hj : (o.after.toList.any fun e => Region.binds .any e && e.on == j) = true) : L j = true := by
  unfold done at h
  rw [List.any_eq_true] at hj
  obtain ⟨e, he, hb⟩ := hj
  rw [Bool.and_eq_true] at hb
  have h2 : (o.after.toList.all fun e => !Region.binds .any e || L e.on) = true := by simpa using h
  rw [List.all_eq_true] at h2
  have := h2 e he
  rw [hb.1] at this
  obtain rfl : e.on = j := by simpa using hb.2
  simpa using this
/-- One operation. -/
def PhaseOp (P : Program) (ops : Array Oper) (Q : Exit → Act → World → Prop) (a : Act) (Base : World → Prop) (G : (Nat → Bool) → Nat → Value → World → Prop) (o : Oper) (i : Nat) : Prop :=
  ∀ (b : Act) (us : Nat → Value) (w : World) (L : Nat → Bool), (∀ k d, dstAt ops.toList k = some d → b.tmps.getD d undef = us k) → (∀ d, isDst ops.toList d = false → b.tmps.getD d undef = a.tmps.getD d undef) → Base w → L i = false →
    (∀ j, L j = true → G L j (us j) w) → (∀ j o, ops[j]? = some o → L j = true → done L o = true) → done L o = true →
    ∀ K : Act → World → Prop, (∀ v w', Base w' → G (markd L i) i v w' → (∀ j, j ≠ i → L j = true → G (markd L i) j (us j) w') → K (b.put o.dst v) w') →
      if Region.wanted o (yieldUs ops us) = true then Oper.wp P o b w K Q else K (b.put o.dst undef) w
def PhaseAll (P : Program) (ops : Array Oper) (Q : Exit → Act → World → Prop) (a : Act) (Base : World → Prop) (G : (Nat → Bool) → Nat → Value → World → Prop) : List Oper → Nat → Prop
  | [], _ => True
  | o :: r, i => PhaseOp P ops Q a Base G o i ∧ PhaseAll P ops Q a Base G r (i + 1)
theorem phaseAll_at {P : Program} {ops : Array Oper} {Q : Exit → Act → World → Prop} {a : Act} {Base : World → Prop} {G : (Nat → Bool) → Nat → Value → World → Prop} : ∀ (l : List Oper) (k i : Nat) (o : Oper), PhaseAll P ops Q a Base G l k → l[i]? = some o → PhaseOp P ops Q a Base G o (k + i)
  | [], _, _, _, _, h => by simp at h
  | x :: r, k, 0, o, hk, h => by
    obtain rfl : x = o := by simpa using h
    exact hk.1
  | x :: r, k, i + 1, o, hk, h => by
    have := phaseAll_at r (k + 1) i o hk.2 (by simpa using h)
    rw [show k + (i + 1) = k + 1 + i by omega]
    exact this
theorem wp_region_phase {P : Program} {ops : Array Oper} {Q : Exit → Act → World → Prop} {id : Nat} {a : Act} {w : World} (hm : P.follows .mixedOrders = true) (hd : edgesDown2 ops = true) (ha : dstsApart ops.toList = true) (hz : dstsIn ops.toList a.tmps.size = true)
    (Base : World → Prop) (G : (Nat → Bool) → Nat → Value → World → Prop) (h0 : Base w.drew) (hstep : PhaseAll P ops Q a Base G ops.toList 0)
    (hend : ∀ us w' L, (∀ i, i < ops.size → L i = true) → Base w' → (∀ j, j < ops.size → G L j (us j) w') → ∀ a', a' = putAll a ops.toList us 0 → Q .normal a' w') : (Code.region id ops true).wp P Q a w := by
  refine wp_region_inv2 hm hd (fun L a' w' => Base w' ∧ (∀ j o, ops[j]? = some o → L j = true → done L o = true) ∧ ∃ us, a' = putAll a ops.toList us 0 ∧ ∀ j, L j = true → G L j (us j) w') ?_ ?_ ?_
  · refine ⟨h0, fun j o _ hj => absurd hj Bool.false_ne_true, fun j => (match ops.toList[j]? with | some o => (match o.dst with | some d => a.tmps.getD d undef | none => undef) | none => undef), ?_, fun j hj => absurd hj Bool.false_ne_true⟩
    exact (putAll_old _ a _ 0 ha fun j o ho => by simp only [Nat.zero_add]; rw [ho]; rfl).symm
  · intro i hi o ho L a' w' hLi hdeps hinv K hK
    obtain ⟨hB, hcl, us, rfl, hG⟩ := hinv
    have hop := phaseAll_at ops.toList 0 i o hstep (by simpa using ho)
    rw [Nat.zero_add] at hop
    have := hop (putAll a ops.toList us 0) us w' L (fun k d hd => by have := putAll_at ops.toList a us 0 k d ha hz hd; rw [Nat.zero_add] at this; exact this) (fun d hd => putAll_not ops.toList a us 0 d hd) hB hLi hG hcl hdeps K ?_
    · rw [yield_us ops a us ha hz]
      exact this
    · intro v w'' hB' hgi hgo
      refine hK _ w'' ⟨hB', ?_, useAt us i v, ?_, ?_⟩
      · intro j o' ho' hj
        by_cases h : j = i
        · subst h
          obtain rfl : o' = o := by rw [ho] at ho'; exact (Option.some.inj ho').symm
          exact done_mark hdeps _
        · rw [markd_other L h] at hj
          exact done_mark (hcl j o' ho' hj) _
      · rw [putAll_use ops.toList a us 0 i o v ha (by simpa using ho), Nat.zero_add]
      · intro j hj
        unfold useAt
        by_cases h : j = i
        · rw [if_pos h, h]; exact hgi
        · rw [if_neg h]
          rw [markd_other L h] at hj
          exact hgo j h hj
  · rintro L a' w' hall ⟨hB, _, us, rfl, hG⟩
    exact hend us w' L hall hB (fun j hj => hG j (hall j hj)) _ rfl
end Go.Proofs.Ytokicnopfmokaaa
