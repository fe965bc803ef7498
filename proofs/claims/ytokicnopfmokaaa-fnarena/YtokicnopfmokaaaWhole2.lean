/-
  A region in its own order, by one relation over all that has been done; and values that hang on a Bool.
-/
import Derived.Test.YtokicnopfmokaaaWhole
namespace Go.Proofs.Ytokicnopfmokaaa
open Go.RowKit
set_option linter.unusedVariables false
set_option maxRecDepth 100000

theorem wpList_whole {P : Program} {ops : Array Oper} {Q : Exit → Act → World → Prop} {a : Act} {R : (Nat → Bool) → (Nat → Value) → World → Prop} (hd : edgesDown2 ops = true) (ha : dstsApart ops.toList = true) (hz : dstsIn ops.toList a.tmps.size = true) (hall : WholeAll P ops Q a R ops.toList 0)
    (hend : ∀ us w' L, (∀ i, i < ops.size → L i = true) → R L us w' → ∀ a', a' = putAll a ops.toList us 0 → Q .normal a' w') :
    ∀ (l : List Oper) (k : Nat), (∀ j, l[j]? = ops.toList[k + j]?) → ∀ (us : Nat → Value) (w : World) (L : Nat → Bool), (∀ j, j < k → L j = true) → (∀ j, k ≤ j → L j = false) → R L us w → wpList P ops Q l (putAll a ops.toList us 0) w
  | [], k, hl, us, w, L, h1, h2, hR => by
    refine wpList_nil (hend us w L (fun j hj => h1 j ?_) hR _ rfl)
    have := hl 0
    simp only [List.getElem?_nil, Nat.add_zero] at this
    have hle := List.getElem?_eq_none_iff.1 this.symm
    simp at hle
    omega
  | o :: r, k, hl, us, w, L, h1, h2, hR => by
    have hok : ops.toList[k]? = some o := by have := hl 0; simpa using this.symm
    have hok' : ops[k]? = some o := by simpa using hok
    have hr : ∀ j, r[j]? = ops.toList[k + 1 + j]? := fun j => by
      have := hl (j + 1)
      rw [show k + 1 + j = k + (j + 1) by omega]
      simpa using this
    have hkz : k < ops.size := by
      have := (List.getElem?_eq_some_iff.1 hok).1
      simpa using this
    have hdone : ∀ j o', ops[j]? = some o' → j ≤ k → done L o' = true := by
      intro j o' ho' hj
      unfold done
      rw [Array.all_eq_true]
      intro e he
      have hjz : j < ops.size := by omega
      have hdn := List.all_eq_true.1 hd j (List.mem_range.2 hjz)
      rw [ho'] at hdn
      have hlt := Array.all_eq_true.1 hdn e he
      cases hbk : Region.binds .any o'.after[e] with
      | false => rfl
      | true =>
        rw [hbk] at hlt
        have hlt' : o'.after[e].on < j := by simpa using hlt
        rw [h1 _ (by omega)]
        rfl
    have hop := wholeAll_at ops.toList 0 k o hall hok
    rw [Nat.zero_add] at hop
    have := hop (putAll a ops.toList us 0) us w L (fun i d hd' => by have := putAll_at ops.toList a us 0 i d ha hz hd'; rw [Nat.zero_add] at this; exact this) (fun d hd' => putAll_not ops.toList a us 0 d hd') (h2 k (Nat.le_refl _)) hR (fun j o' ho' hj => hdone j o' ho' (by
      rcases Nat.lt_or_ge j k with h | h
      · omega
      · rw [h2 j h] at hj; cases hj)) (hdone k o hok' (Nat.le_refl _)) (wpList P ops Q r) ?_
    · rw [← yield_us ops a us ha hz] at this
      unfold wpList
      split
      · rename_i hw
        rw [if_pos hw] at this
        exact Or.inl this
      · rename_i hw
        rw [if_neg hw] at this
        exact this
    · intro v w' hR'
      rw [putAll_use ops.toList a us 0 k o v ha hok, Nat.zero_add]
      refine wpList_whole hd ha hz hall hend r (k + 1) hr _ w' (markd L k) ?_ ?_ hR'
      · intro j hj
        by_cases h : j = k
        · subst h; exact markd_same _ _
        · rw [markd_other L h]; exact h1 j (by omega)
      · intro j hj
        rw [markd_other L (by omega)]; exact h2 j (by omega)
/-- A region that doesn't draw. -/
theorem wp_region_wholeL {P : Program} {ops : Array Oper} {Q : Exit → Act → World → Prop} {id : Nat} {a : Act} {w : World} (hd : edgesDown2 ops = true) (ha : dstsApart ops.toList = true) (hz : dstsIn ops.toList a.tmps.size = true)
    (R : (Nat → Bool) → (Nat → Value) → World → Prop) (h0 : ∀ us, R (fun _ => false) us w) (hstep : WholeAll P ops Q a R ops.toList 0)
    (hend : ∀ us w' L, (∀ i, i < ops.size → L i = true) → R L us w' → ∀ a', a' = putAll a ops.toList us 0 → Q .normal a' w') : (Code.region id ops false).wp P Q a w := by
  refine wp_region_list ?_
  have h1 : putAll a ops.toList (fun j => (match ops.toList[j]? with | some o => (match o.dst with | some d => a.tmps.getD d undef | none => undef) | none => undef)) 0 = a :=
    putAll_old _ a _ 0 ha fun j o ho => by simp only [Nat.zero_add]; rw [ho]; rfl
  have h2 := wpList_whole (Q := Q) hd ha hz hstep hend ops.toList 0 (fun j => by rw [Nat.zero_add]) (fun j => (match ops.toList[j]? with | some o => (match o.dst with | some d => a.tmps.getD d undef | none => undef) | none => undef)) w (fun _ => false) (fun j hj => absurd hj (Nat.not_lt_zero j)) (fun _ _ => rfl) (h0 _)
  rw [h1] at h2
  exact h2
/-- Each operation leaves a value that is known, where a Bool is known. -/
def gPick (o : Bool) (ts fs : List Value) (j : Nat) (u : Value) (_ : World) : Prop := u = (match o with | true => ts | false => fs).getD j undef
end Go.Proofs.Ytokicnopfmokaaa
