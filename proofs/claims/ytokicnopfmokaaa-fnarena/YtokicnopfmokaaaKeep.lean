/-
  The same, where each operation's value is told by itself.
-/
import Derived.Test.YtokicnopfmokaaaInv
namespace Go.Proofs.Ytokicnopfmokaaa
open Go.RowKit
set_option linter.unusedVariables false
set_option maxRecDepth 100000

/-- The frame with the operations' values laid in. -/
def putAll : Act → List Oper → (Nat → Value) → Nat → Act
  | a, [], _, _ => a
  | a, o :: r, us, k => putAll (a.put o.dst (us k)) r us (k + 1)
/-- No two write one slot. -/
def dstsApart : List Oper → Bool
  | [] => true
  | o :: r => r.all (fun x => match o.dst, x.dst with | some d, some d' => d != d' | _, _ => true) && dstsApart r
def clash (d d' : Option Tmp) : Bool := match d, d' with | some d, some d' => d == d' | _, _ => false
theorem put_none (a : Act) (v : Value) : a.put none v = a := rfl
theorem put_comm (a : Act) (d d' : Option Tmp) (x y : Value) (h : (match d, d' with | some d, some d' => d != d' | _, _ => true) = true) : (a.put d x).put d' y = (a.put d' y).put d x := by
  cases d with
  | none => rfl
  | some d =>
    cases d' with
    | none => rfl
    | some d' =>
      have hne : d ≠ d' := by simpa using h
      simp only [Act.put]
      rw [Array.setIfInBounds_comm _ _ hne]
theorem put_same (a : Act) (d : Option Tmp) (x y : Value) : (a.put d x).put d y = a.put d y := by
  cases d with
  | none => rfl
  | some d => simp [Act.put]
theorem put_old (a : Act) (d : Option Tmp) : a.put d (match d with | some d => a.tmps.getD d undef | none => undef) = a := by
  cases d with
  | none => rfl
  | some d =>
    have : a.tmps.setIfInBounds d (a.tmps.getD d undef) = a.tmps := by
      apply Array.ext_getElem?
      intro i
      rw [Array.getElem?_setIfInBounds]
      split
      · rename_i h; subst h
        by_cases hd : d < a.tmps.size
        · simp [hd, Array.getD]
        · simp [hd]
      · rfl
    simp only [Act.put]
    rw [this]
theorem putAll_put : ∀ (r : List Oper) (a : Act) (us : Nat → Value) (k : Nat) (d : Option Tmp) (v : Value), (r.all fun x => match d, x.dst with | some d, some d' => d != d' | _, _ => true) = true → (putAll a r us k).put d v = putAll (a.put d v) r us k
  | [], _, _, _, _, _, _ => rfl
  | o :: r, a, us, k, d, v, h => by
    simp only [List.all_cons, Bool.and_eq_true] at h
    show (putAll (a.put o.dst (us k)) r us (k + 1)).put d v = putAll ((a.put d v).put o.dst (us k)) r us (k + 1)
    rw [putAll_put r _ us (k + 1) d v h.2, put_comm a d o.dst v (us k) h.1]
theorem putAll_beyond : ∀ (r : List Oper) (a : Act) (us us' : Nat → Value) (k : Nat), (∀ j, k ≤ j → us j = us' j) → putAll a r us k = putAll a r us' k
  | [], _, _, _, _, _ => rfl
  | o :: r, a, us, us', k, h => by
    show putAll (a.put o.dst (us k)) r us (k + 1) = putAll (a.put o.dst (us' k)) r us' (k + 1)
    rw [h k (Nat.le_refl _)]
    exact putAll_beyond r _ us us' (k + 1) (fun j hj => h j (by omega))
/-- 'i' has another value. -/
def useAt (us : Nat → Value) (i : Nat) (v : Value) : Nat → Value := fun j => if j = i then v else us j
theorem putAll_use : ∀ (r : List Oper) (a : Act) (us : Nat → Value) (k i : Nat) (o : Oper) (v : Value), dstsApart r = true → r[i]? = some o → (putAll a r us k).put o.dst v = putAll a r (useAt us (k + i) v) k
  | [], _, _, _, _, _, _, _, h => by simp at h
  | x :: r, a, us, k, 0, o, v, hd, h => by
    obtain rfl : x = o := by simpa using h
    unfold dstsApart at hd
    rw [Bool.and_eq_true] at hd
    show (putAll (a.put x.dst (us k)) r us (k + 1)).put x.dst v = putAll (a.put x.dst (useAt us (k + 0) v k)) r (useAt us (k + 0) v) (k + 1)
    rw [putAll_put r _ us (k + 1) x.dst v hd.1, put_same]
    rw [show useAt us (k + 0) v k = v by simp [useAt]]
    exact putAll_beyond r _ _ _ _ fun j hj => by unfold useAt; rw [if_neg (by omega)]
  | x :: r, a, us, k, i + 1, o, v, hd, h => by
    unfold dstsApart at hd
    rw [Bool.and_eq_true] at hd
    show (putAll (a.put x.dst (us k)) r us (k + 1)).put o.dst v = putAll (a.put x.dst (useAt us (k + (i + 1)) v k)) r (useAt us (k + (i + 1)) v) (k + 1)
    rw [putAll_use r _ us (k + 1) i o v hd.2 (by simpa using h)]
    rw [show useAt us (k + (i + 1)) v k = us k by unfold useAt; rw [if_neg (by omega)]]
    rw [show k + (i + 1) = k + 1 + i by omega]
theorem putAll_old : ∀ (r : List Oper) (a : Act) (us : Nat → Value) (k : Nat), dstsApart r = true → (∀ j o, r[j]? = some o → us (k + j) = (match o.dst with | some d => a.tmps.getD d undef | none => undef)) → putAll a r us k = a
  | [], _, _, _, _, _ => rfl
  | o :: r, a, us, k, hd, h => by
    unfold dstsApart at hd
    rw [Bool.and_eq_true] at hd
    show putAll (a.put o.dst (us k)) r us (k + 1) = a
    have h0 : a.put o.dst (us k) = a := by
      have := h 0 o rfl
      rw [show k + 0 = k by omega] at this
      rw [this]; exact put_old a o.dst
    rw [h0]
    exact putAll_old r a us (k + 1) hd.2 fun j x hx => by
      have := h (j + 1) x (by simpa using hx)
      rw [show k + 1 + j = k + (j + 1) by omega]; exact this

/-- What is asked of one operation, its value told. -/
def KeepStep (P : Program) (ops : Array Oper) (Q : Exit → Act → World → Prop) (a : Act) (Base : World → Prop) (G : Nat → Value → World → Prop) (i : Nat) : Prop :=
  ∀ (o : Oper), ops[i]? = some o → ∀ (us : Nat → Value) (w : World), Base w → (∀ k (hk : k < o.after.size), Region.binds .any o.after[k] = true → G o.after[k].on (us o.after[k].on) w) →
    ∀ K : Act → World → Prop, (∀ v w', Base w' → (∀ j u, G j u w → G j u w') → G i v w' → ∀ a', a' = (putAll a ops.toList us 0).put o.dst v → K a' w') →
      if Region.wanted o (yielded ops (putAll a ops.toList us 0).tmps) = true then Oper.wp P o (putAll a ops.toList us 0) w K Q else K ((putAll a ops.toList us 0).put o.dst undef) w

theorem wp_region_keep {P : Program} {ops : Array Oper} {Q : Exit → Act → World → Prop} {id : Nat} {a : Act} {w : World} (hm : P.follows .mixedOrders = true) (hd : edgesDown ops = true) (ha : dstsApart ops.toList = true)
    (Base : World → Prop) (G : Nat → Value → World → Prop) (h0 : Base w.drew) (hstep : ∀ i, i < ops.size → KeepStep P ops Q a Base G i)
    (hend : ∀ us w', Base w' → (∀ j, j < ops.size → G j (us j) w') → ∀ a', a' = putAll a ops.toList us 0 → Q .normal a' w') : (Code.region id ops true).wp P Q a w := by
  refine wp_region_inv hm hd (fun L a' w' => Base w' ∧ ∃ us, a' = putAll a ops.toList us 0 ∧ ∀ j, L j = true → G j (us j) w') ?_ ?_ ?_
  · refine ⟨h0, fun j => (match ops.toList[j]? with | some o => (match o.dst with | some d => a.tmps.getD d undef | none => undef) | none => undef), ?_, fun j hj => by cases hj⟩
    exact (putAll_old _ a _ 0 ha fun j o ho => by simp only [Nat.zero_add]; rw [ho]).symm
  · intro i hi o ho L a' w' hdeps hinv K hK
    obtain ⟨hB, us, rfl, hG⟩ := hinv
    refine hstep i hi o ho us w' hB ?_ K ?_
    · intro k hk hb
      have := Array.all_eq_true.1 hdeps k hk
      rw [hb] at this
      exact hG _ (by simpa using this)
    · intro v w'' hB' ht hgi a'' ha''
      refine hK a'' w'' ⟨hB', useAt us i v, ?_, ?_⟩
      · rw [ha'', putAll_use ops.toList a us 0 i o v ha (by simpa using ho), Nat.zero_add]
      · intro j hj
        unfold markd at hj
        unfold useAt
        by_cases h : j = i
        · rw [if_pos h, h]; exact hgi
        · rw [if_neg h] at hj ⊢; exact ht _ _ (hG j hj)
  · rintro L a' w' hall ⟨hB, us, rfl, hG⟩
    exact hend us w' hB (fun j hj => hG j (hall j hj)) _ rfl

/-- What must be done first has been done. -/
def DepsOk (G : Nat → Value → World → Prop) (us : Nat → Value) (w : World) : List Edge → Prop
  | [] => True
  | e :: r => (Region.binds .any e = true → G e.on (us e.on) w) ∧ DepsOk G us w r
theorem depsOk_of {G : Nat → Value → World → Prop} {us : Nat → Value} {w : World} : ∀ (l : List Edge), (∀ e ∈ l, Region.binds .any e = true → G e.on (us e.on) w) → DepsOk G us w l
  | [], _ => trivial
  | e :: r, h => ⟨h e (by simp), depsOk_of r fun x hx => h x (by simp [hx])⟩
/-- One operation, written out. -/
def KeepOp (P : Program) (ops : Array Oper) (Q : Exit → Act → World → Prop) (a : Act) (Base : World → Prop) (G : Nat → Value → World → Prop) (o : Oper) (i : Nat) : Prop :=
  ∀ (us : Nat → Value) (w : World), Base w → DepsOk G us w o.after.toList →
    ∀ K : Act → World → Prop, (∀ v w', Base w' → (∀ j u, G j u w → G j u w') → G i v w' → ∀ a', a' = (putAll a ops.toList us 0).put o.dst v → K a' w') →
      if Region.wanted o (yielded ops (putAll a ops.toList us 0).tmps) = true then Oper.wp P o (putAll a ops.toList us 0) w K Q else K ((putAll a ops.toList us 0).put o.dst undef) w
/-- All of them. -/
def KeepAll (P : Program) (ops : Array Oper) (Q : Exit → Act → World → Prop) (a : Act) (Base : World → Prop) (G : Nat → Value → World → Prop) : List Oper → Nat → Prop
  | [], _ => True
  | o :: r, i => KeepOp P ops Q a Base G o i ∧ KeepAll P ops Q a Base G r (i + 1)
theorem keepAll_at {P : Program} {ops : Array Oper} {Q : Exit → Act → World → Prop} {a : Act} {Base : World → Prop} {G : Nat → Value → World → Prop} : ∀ (l : List Oper) (k i : Nat) (o : Oper), KeepAll P ops Q a Base G l k → l[i]? = some o → KeepOp P ops Q a Base G o (k + i)
  | [], _, _, _, _, h => by simp at h
  | x :: r, k, 0, o, hk, h => by
    obtain rfl : x = o := by simpa using h
    exact hk.1
  | x :: r, k, i + 1, o, hk, h => by
    have := keepAll_at r (k + 1) i o hk.2 (by simpa using h)
    rw [show k + (i + 1) = k + 1 + i by omega]
    exact this
theorem wp_region_all {P : Program} {ops : Array Oper} {Q : Exit → Act → World → Prop} {id : Nat} {a : Act} {w : World} (hm : P.follows .mixedOrders = true) (hd : edgesDown ops = true) (ha : dstsApart ops.toList = true)
    (Base : World → Prop) (G : Nat → Value → World → Prop) (h0 : Base w.drew) (hstep : KeepAll P ops Q a Base G ops.toList 0)
    (hend : ∀ us w', Base w' → (∀ j, j < ops.size → G j (us j) w') → ∀ a', a' = putAll a ops.toList us 0 → Q .normal a' w') : (Code.region id ops true).wp P Q a w := by
  refine wp_region_keep hm hd ha Base G h0 (fun i hi o ho us w hB hdeps K hK => ?_) hend
  have := keepAll_at ops.toList 0 i o hstep (by simpa using ho)
  rw [Nat.zero_add] at this
  refine this us w hB (depsOk_of _ fun e he hb => ?_) K hK
  obtain ⟨k, hk, rfl⟩ := List.getElem_of_mem he
  have hk' : k < o.after.size := by simpa using hk
  have := hdeps k hk' (by simpa using hb)
  simpa using this
end Go.Proofs.Ytokicnopfmokaaa
