/-
  The same with the frame shut: what it holds is told slot by slot; and a region in its own order.
-/
import Derived.Test.YtokicnopfmokaaaKeep
namespace Go.Proofs.Ytokicnopfmokaaa
open Go.RowKit
set_option linter.unusedVariables false
set_option maxRecDepth 100000

/-- Does one of them write slot d? -/
def isDst (l : List Oper) (d : Nat) : Bool := l.any fun o => o.dst == some d
def dstAt (l : List Oper) (k : Nat) : Option Tmp := (l[k]?).bind (·.dst)
/-- All slots are there. -/
def dstsIn (l : List Oper) (n : Nat) : Bool := l.all fun o => match o.dst with | some d => decide (d < n) | none => true
theorem put_size (a : Act) (d : Option Tmp) (v : Value) : (a.put d v).tmps.size = a.tmps.size := by
  cases d <;> simp [Act.put]
theorem put_defers (a : Act) (d : Option Tmp) (v : Value) : (a.put d v).defers = a.defers := by
  cases d <;> rfl
theorem put_at (a : Act) (d : Tmp) (v : Value) (h : d < a.tmps.size) : (a.put (some d) v).tmps.getD d undef = v := by
  simp [Act.put, Array.getD, h]
theorem put_not (a : Act) (o : Option Tmp) (d : Tmp) (v : Value) (h : (o == some d) = false) : (a.put o v).tmps.getD d undef = a.tmps.getD d undef := by
  cases o with
  | none => rfl
  | some e =>
    have hne : e ≠ d := by simpa using h
    have hz := put_size a (some e) v
    simp only [Array.getD, hz]
    split
    · simp only [Act.put, Array.getInternal_eq_getElem]
      rw [Array.getElem_setIfInBounds_ne _ hne]
    · rfl
theorem putAll_size : ∀ (l : List Oper) (a : Act) (us : Nat → Value) (k : Nat), (putAll a l us k).tmps.size = a.tmps.size
  | [], _, _, _ => rfl
  | o :: r, a, us, k => (putAll_size r _ us (k + 1)).trans (put_size a _ _)
theorem putAll_not : ∀ (l : List Oper) (a : Act) (us : Nat → Value) (k d : Nat), isDst l d = false → (putAll a l us k).tmps.getD d undef = a.tmps.getD d undef
  | [], _, _, _, _, _ => rfl
  | o :: r, a, us, k, d, h => by
    unfold isDst at h
    rw [List.any_cons, Bool.or_eq_false_iff] at h
    exact (putAll_not r _ us (k + 1) d h.2).trans (put_not a o.dst d _ h.1)
theorem apart_not : ∀ (r : List Oper) (d : Tmp), (r.all (fun x => match some d, x.dst with | some d, some d' => d != d' | _, _ => true)) = true → isDst r d = false
  | [], _, _ => rfl
  | o :: r, d, h => by
    rw [List.all_cons, Bool.and_eq_true] at h
    unfold isDst
    rw [List.any_cons, Bool.or_eq_false_iff]
    refine ⟨?_, apart_not r d h.2⟩
    cases ho : o.dst with
    | none => rfl
    | some e =>
      have h1 := h.1
      rw [ho] at h1
      simp only [bne_iff_ne, ne_eq] at h1
      simp only [beq_eq_false_iff_ne, ne_eq, Option.some.injEq]
      exact fun q => h1 q.symm
theorem putAll_at : ∀ (l : List Oper) (a : Act) (us : Nat → Value) (k i d : Nat), dstsApart l = true → dstsIn l a.tmps.size = true → dstAt l i = some d → (putAll a l us k).tmps.getD d undef = us (k + i)
  | [], _, _, _, _, _, _, _, h => by simp [dstAt] at h
  | o :: r, a, us, k, 0, d, ha, hz, h => by
    have ho : o.dst = some d := by simpa [dstAt] using h
    unfold dstsApart at ha
    rw [Bool.and_eq_true] at ha
    unfold dstsIn at hz
    rw [List.all_cons, Bool.and_eq_true] at hz
    have h1 := ha.1
    rw [ho] at h1
    have h2 := hz.1
    rw [ho] at h2
    show (putAll (a.put o.dst (us k)) r us (k + 1)).tmps.getD d undef = us (k + 0)
    rw [putAll_not r _ us (k + 1) d (apart_not r d h1), ho]
    exact put_at a d _ (by simpa using h2)
  | o :: r, a, us, k, i + 1, d, ha, hz, h => by
    unfold dstsApart at ha
    rw [Bool.and_eq_true] at ha
    unfold dstsIn at hz
    rw [List.all_cons, Bool.and_eq_true] at hz
    show (putAll (a.put o.dst (us k)) r us (k + 1)).tmps.getD d undef = us (k + (i + 1))
    rw [putAll_at r _ us (k + 1) i d ha.2 (by rw [put_size]; exact hz.2) (by simpa [dstAt] using h)]
    rw [show k + 1 + i = k + (i + 1) by omega]

/-- What the operations yielded, by their values. -/
def yieldUs (ops : Array Oper) (us : Nat → Value) (j : Nat) : Option Bool :=
  match (ops[j]?).bind (·.dst) with
  | some _ => (match us j with | .bool b => some b | _ => none)
  | none => none
theorem yield_us (ops : Array Oper) (a : Act) (us : Nat → Value) (ha : dstsApart ops.toList = true) (hz : dstsIn ops.toList a.tmps.size = true) : yielded ops (putAll a ops.toList us 0).tmps = yieldUs ops us := by
  funext j
  unfold yielded yieldUs
  cases ho : (ops[j]?).bind (·.dst) with
  | none => rfl
  | some d =>
    have hat : dstAt ops.toList j = some d := by unfold dstAt; simpa using ho
    have h1 := putAll_at ops.toList a us 0 j d ha hz hat
    rw [Nat.zero_add] at h1
    have hd : d < (putAll a ops.toList us 0).tmps.size := by
      rw [putAll_size]
      unfold dstsIn at hz
      rw [List.all_eq_true] at hz
      unfold dstAt at hat
      cases hl : ops.toList[j]? with
      | none => rw [hl] at hat; cases hat
      | some o =>
        rw [hl] at hat
        have := hz o (List.mem_of_getElem? hl)
        simp only [Option.bind_some] at hat
        rw [hat] at this
        simpa using this
    simp only [Option.bind_some]
    have h2 : (putAll a ops.toList us 0).tmps[d]? = some (us j) := by
      rw [← h1]
      simp [Array.getD, hd]
    rw [h2]
    cases us j <;> rfl

/-- One operation, the frame shut. -/
def ShutOp (P : Program) (ops : Array Oper) (Q : Exit → Act → World → Prop) (a : Act) (Base : World → Prop) (G : Nat → Value → World → Prop) (D : (Nat → Value) → World → Prop) (o : Oper) (i : Nat) : Prop :=
  ∀ (b : Act) (us : Nat → Value) (w : World), (∀ k d, dstAt ops.toList k = some d → b.tmps.getD d undef = us k) → (∀ d, isDst ops.toList d = false → b.tmps.getD d undef = a.tmps.getD d undef) → Base w → D us w →
    ∀ K : Act → World → Prop, (∀ v w', Base w' → (∀ j u, G j u w → G j u w') → G i v w' → K (b.put o.dst v) w') →
      if Region.wanted o (yieldUs ops us) = true then Oper.wp P o b w K Q else K (b.put o.dst undef) w
def ShutAll (P : Program) (ops : Array Oper) (Q : Exit → Act → World → Prop) (a : Act) (Base : World → Prop) (G : Nat → Value → World → Prop) : List Oper → Nat → Prop
  | [], _ => True
  | o :: r, i => ShutOp P ops Q a Base G (fun us w => DepsOk G us w o.after.toList) o i ∧ ShutAll P ops Q a Base G r (i + 1)
theorem keep_shut {P : Program} {ops : Array Oper} {Q : Exit → Act → World → Prop} {a : Act} {Base : World → Prop} {G : Nat → Value → World → Prop} (ha : dstsApart ops.toList = true) (hz : dstsIn ops.toList a.tmps.size = true) :
    ∀ (l : List Oper) (k : Nat), ShutAll P ops Q a Base G l k → KeepAll P ops Q a Base G l k
  | [], _, _ => trivial
  | o :: r, k, h => by
    refine ⟨?_, keep_shut ha hz r (k + 1) h.2⟩
    intro us w hB hdeps K hK
    have := h.1 (putAll a ops.toList us 0) us w (fun i d hd => by have := putAll_at ops.toList a us 0 i d ha hz hd; rw [Nat.zero_add] at this; exact this) (fun d hd => putAll_not ops.toList a us 0 d hd) hB hdeps K (fun v w' h1 h2 h3 => hK v w' h1 h2 h3 _ rfl)
    rw [yield_us ops a us ha hz]
    exact this
/-- A region that draws, the frame shut at each operation. -/
theorem wp_region_shut {P : Program} {ops : Array Oper} {Q : Exit → Act → World → Prop} {id : Nat} {a : Act} {w : World} (hm : P.follows .mixedOrders = true) (hd : edgesDown ops = true) (ha : dstsApart ops.toList = true) (hz : dstsIn ops.toList a.tmps.size = true)
    (Base : World → Prop) (G : Nat → Value → World → Prop) (h0 : Base w.drew) (hstep : ShutAll P ops Q a Base G ops.toList 0)
    (hend : ∀ us w', Base w' → (∀ j, j < ops.size → G j (us j) w') → ∀ a', a' = putAll a ops.toList us 0 → Q .normal a' w') : (Code.region id ops true).wp P Q a w :=
  wp_region_all hm hd ha Base G h0 (keep_shut ha hz _ _ hstep) hend
theorem deps_at {G : Nat → Value → World → Prop} {us : Nat → Value} {w : World} : ∀ {l : List Edge}, DepsOk G us w l → ∀ j, (l.any fun e => Region.binds .any e && e.on == j) = true → G j (us j) w
  | [], _, _, h => by simp at h
  | e :: r, hd, j, h => by
    rw [List.any_cons, Bool.or_eq_true] at h
    rcases h with h | h
    · rw [Bool.and_eq_true] at h
      obtain ⟨h1, h2⟩ := h
      obtain rfl : e.on = j := by simpa using h2
      exact hd.1 h1
    · exact deps_at hd.2 j h

/-- A region in its own order, the frame shut. -/
def LexAll (P : Program) (ops : Array Oper) (Q : Exit → Act → World → Prop) (a : Act) (Base : World → Prop) (G : Nat → Value → World → Prop) : List Oper → Nat → Prop
  | [], _ => True
  | o :: r, i => ShutOp P ops Q a Base G (fun us w => ∀ j, j < i → G j (us j) w) o i ∧ LexAll P ops Q a Base G r (i + 1)
theorem wpList_lex {P : Program} {ops : Array Oper} {Q : Exit → Act → World → Prop} {a : Act} {Base : World → Prop} {G : Nat → Value → World → Prop} (ha : dstsApart ops.toList = true) (hz : dstsIn ops.toList a.tmps.size = true)
    (hend : ∀ us w', Base w' → (∀ j, j < ops.size → G j (us j) w') → ∀ a', a' = putAll a ops.toList us 0 → Q .normal a' w') :
    ∀ (l : List Oper) (k : Nat), (∀ j, l[j]? = ops.toList[k + j]?) → LexAll P ops Q a Base G l k → ∀ (us : Nat → Value) (w : World), Base w → (∀ j, j < k → G j (us j) w) → wpList P ops Q l (putAll a ops.toList us 0) w
  | [], k, hl, _, us, w, hB, hG => by
    refine wpList_nil (hend us w hB (fun j hj => hG j ?_) _ rfl)
    have := hl 0
    simp only [List.getElem?_nil, Nat.add_zero] at this
    have hle := List.getElem?_eq_none_iff.1 this.symm
    simp at hle
    omega
  | o :: r, k, hl, hs, us, w, hB, hG => by
    have hok : ops.toList[k]? = some o := by have := hl 0; simpa using this.symm
    have hr : ∀ j, r[j]? = ops.toList[k + 1 + j]? := fun j => by
      have := hl (j + 1)
      rw [show k + 1 + j = k + (j + 1) by omega]
      simpa using this
    have hnext : ∀ v w', Base w' → (∀ j u, G j u w → G j u w') → G k v w' → wpList P ops Q r ((putAll a ops.toList us 0).put o.dst v) w' := by
      intro v w' hB' ht hg
      rw [putAll_use ops.toList a us 0 k o v ha hok, Nat.zero_add]
      refine wpList_lex ha hz hend r (k + 1) hr hs.2 _ w' hB' ?_
      intro j hj
      unfold useAt
      by_cases h : j = k
      · rw [if_pos h, h]; exact hg
      · rw [if_neg h]; exact ht _ _ (hG j (by omega))
    have := hs.1 (putAll a ops.toList us 0) us w (fun i d hd => by have := putAll_at ops.toList a us 0 i d ha hz hd; rw [Nat.zero_add] at this; exact this) (fun d hd => putAll_not ops.toList a us 0 d hd) hB hG (wpList P ops Q r) hnext
    rw [← yield_us ops a us ha hz] at this
    unfold wpList
    split
    · rename_i hw
      rw [if_pos hw] at this
      exact Or.inl this
    · rename_i hw
      rw [if_neg hw] at this
      exact this
theorem wp_region_lex {P : Program} {ops : Array Oper} {Q : Exit → Act → World → Prop} {id : Nat} {a : Act} {w : World} (ha : dstsApart ops.toList = true) (hz : dstsIn ops.toList a.tmps.size = true)
    (Base : World → Prop) (G : Nat → Value → World → Prop) (h0 : Base w) (hstep : LexAll P ops Q a Base G ops.toList 0)
    (hend : ∀ us w', Base w' → (∀ j, j < ops.size → G j (us j) w') → ∀ a', a' = putAll a ops.toList us 0 → Q .normal a' w') : (Code.region id ops false).wp P Q a w := by
  refine wp_region_list ?_
  have h1 : putAll a ops.toList (fun j => (match ops.toList[j]? with | some o => (match o.dst with | some d => a.tmps.getD d undef | none => undef) | none => undef)) 0 = a :=
    putAll_old _ a _ 0 ha fun j o ho => by simp only [Nat.zero_add]; rw [ho]; rfl
  have h2 := wpList_lex (Q := Q) ha hz hend ops.toList 0 (fun j => by rw [Nat.zero_add]) hstep (fun j => (match ops.toList[j]? with | some o => (match o.dst with | some d => a.tmps.getD d undef | none => undef) | none => undef)) w h0 (fun j hj => absurd hj (Nat.not_lt_zero j))
  rw [h1] at h2
  exact h2

theorem guard_on {o : Oper} {ops : Array Oper} {us : Nat → Value} {j : Nat} {want : Bool} {d : Tmp} {A B : Prop} (hg : o.guard = some (j, want)) (hd : dstAt ops.toList j = some d) (hu : us j = .bool want) (h : A) : if Region.wanted o (yieldUs ops us) = true then A else B := by
  have hw : Region.wanted o (yieldUs ops us) = true := by
    unfold dstAt at hd
    have hd' : (ops[j]?).bind (·.dst) = some d := by simpa using hd
    simp [Region.wanted, hg, yieldUs, hd', hu]
  rw [if_pos hw]; exact h
theorem guard_off {o : Oper} {ops : Array Oper} {us : Nat → Value} {j : Nat} {want c : Bool} {d : Tmp} {A B : Prop} (hg : o.guard = some (j, want)) (hd : dstAt ops.toList j = some d) (hu : us j = .bool c) (hc : (c == want) = false) (h : B) : if Region.wanted o (yieldUs ops us) = true then A else B := by
  have hw : Region.wanted o (yieldUs ops us) = false := by
    unfold dstAt at hd
    have hd' : (ops[j]?).bind (·.dst) = some d := by simpa using hd
    simp only [Region.wanted, hg, yieldUs, hd', hu]
    simpa using hc
  rw [if_neg (by rw [hw]; exact Bool.false_ne_true)]; exact h
theorem guard_none {o : Oper} {f : Nat → Option Bool} {A B : Prop} (hg : o.guard = none) (h : A) : if Region.wanted o f = true then A else B := by
  have hw : Region.wanted o f = true := by simp [Region.wanted, hg]
  rw [if_pos hw]; exact h

/-- The walk stops at this region. -/
def Halt0 (P : Program) (id : Nat) (ops : Array Oper) (d : Bool) (Q : Exit → Act → World → Prop) (a : Act) (w : World) : Prop := (Code.region id ops d).wp P Q a w
theorem halt_region {P : Program} {id : Nat} {ops : Array Oper} {d : Bool} {Q : Exit → Act → World → Prop} {a : Act} {w : World} (h : Halt0 P id ops d Q a w) : (Code.region id ops d).wp P Q a w := h
end Go.Proofs.Ytokicnopfmokaaa
