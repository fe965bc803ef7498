/-
  What the law of ArenaPut needs: a thing's lists marked, and what its regions leave.
-/
import Derived.Test.YtglpfgachcoheaaHeldA
import Derived.Test.YtglpfgachcoheaaCopy8
import Derived.Test.YtglpfgachcoheaaReadO
import Derived.Test.YtglpfgachcoheaaSPut9
import Derived.Test.YtglpfgachcoheaaSameI
namespace Go.Proofs.Ytglpfgachcoheaa
open Go.RowKit
set_option linter.unusedVariables false
set_option maxRecDepth 100000

theorem OwnA.turnedBy {g cap : Nat} {es : List El} {rest : List Value} {lo hi l0 h0 : Nat} {w w' : World} (h : OwnA g cap es rest lo hi w) (ht : Turned8 l0 h0 w w') (hd : hi ≤ l0 ∨ h0 ≤ lo) : OwnA g cap es rest lo hi w' :=
  ⟨ht.block _ _ h.at' (by have := h.lo; have := h.hi; omega), h.cap, h.lo, h.hi, fun i hi' => (h.own i hi').move (fun b x h1 h2 hx => ht.block _ _ hx (by omega)) (Nat.le_refl _) (Nat.le_refl _), h.ne, h.apart⟩
theorem own_arena9 {os : List Ob} {g n c : Nat} {fs : List El} {rest : List Value} {lo hi : Nat} {w : World} (he : arOf fs = os) (hn : n = os.length) (h : OwnA g c fs rest lo hi w) : IsArena w (.slice (some ⟨g, 0, none⟩) n c) os := by
  have e := h.arena
  have e2 : fs.length = n := by rw [hn, ← he, arOf_length]
  rw [he, e2] at e
  exact e
theorem putOf_length (os : List Ob) (o : Ob) : (putOf os o).length = os.length := by unfold putOf; split; exact putL_length _ _ _; rfl
theorem arN_put : ∀ (os : List Ob) (k : Nat) (x : Ob), arN (os.set k x) ≤ arN os + obN x
  | [], _, _ => by simp [arN]
  | o :: os, 0, x => by rw [List.set_cons_zero, arN_cons, arN_cons]; omega
  | o :: os, k + 1, x => by rw [List.set_cons_succ, arN_cons, arN_cons]; have := arN_put os k x; omega
theorem putOf_arN (os : List Ob) (o : Ob) : arN (putOf os o) ≤ arN os + obN o := by
  unfold putOf
  split
  · exact arN_put os _ { o with gen := (obAt os (firstFill os).toNat).gen + 1 }
  · omega
/-- A thing of the laws' own, in its box. -/
structure Box13L (w : World) (g : Nat) (o : Ob) (l d m : Value) : Prop where
  at' : w.heap[g]? = some (boxOL o l d m)
theorem Box13L.on {w w' : World} {g : Nat} {o : Ob} {l d m : Value} (x : Box13L w g o l d m) (hb : Below w.heap.size w w') : Box13L w' g o l d m := ⟨keep x.at' hb⟩
theorem Box13L.c0 {w : World} {g : Nat} {o : Ob} {l d m : Value} (x : Box13L w g o l d m) : w.cell? ⟨g, 0, none⟩ = some (.int .i64 o.gen) := by simp [World.cell?, x.at']
theorem Box13L.c1 {w : World} {g : Nat} {o : Ob} {l d m : Value} (x : Box13L w g o l d m) : w.cell? ⟨g, 1, none⟩ = some (.int .i64 o.kind) := by simp [World.cell?, x.at']
theorem Box13L.c2 {w : World} {g : Nat} {o : Ob} {l d m : Value} (x : Box13L w g o l d m) : w.cell? ⟨g, 2, none⟩ = some (.int .i64 o.into) := by simp [World.cell?, x.at']
theorem Box13L.c3 {w : World} {g : Nat} {o : Ob} {l d m : Value} (x : Box13L w g o l d m) : w.cell? ⟨g, 3, none⟩ = some (.int .i64 o.res) := by simp [World.cell?, x.at']
theorem Box13L.c4 {w : World} {g : Nat} {o : Ob} {l d m : Value} (x : Box13L w g o l d m) : w.cell? ⟨g, 4, none⟩ = some (.int .i64 o.unt) := by simp [World.cell?, x.at']
theorem Box13L.c5 {w : World} {g : Nat} {o : Ob} {l d m : Value} (x : Box13L w g o l d m) : w.cell? ⟨g, 5, none⟩ = some (.int .i64 o.pages) := by simp [World.cell?, x.at']
theorem Box13L.c6 {w : World} {g : Nat} {o : Ob} {l d m : Value} (x : Box13L w g o l d m) : w.cell? ⟨g, 6, none⟩ = some (.int .i64 o.wait) := by simp [World.cell?, x.at']
theorem Box13L.c7 {w : World} {g : Nat} {o : Ob} {l d m : Value} (x : Box13L w g o l d m) : w.cell? ⟨g, 7, none⟩ = some (.int .i64 o.got) := by simp [World.cell?, x.at']
theorem Box13L.c8 {w : World} {g : Nat} {o : Ob} {l d m : Value} (x : Box13L w g o l d m) : w.cell? ⟨g, 8, none⟩ = some (.int .i64 o.ran) := by simp [World.cell?, x.at']
theorem Box13L.c9 {w : World} {g : Nat} {o : Ob} {l d m : Value} (x : Box13L w g o l d m) : w.cell? ⟨g, 9, none⟩ = some (.bool o.mark) := by simp [World.cell?, x.at']
theorem Box13L.c10 {w : World} {g : Nat} {o : Ob} {l d m : Value} (x : Box13L w g o l d m) : w.cell? ⟨g, 10, none⟩ = some (l) := by simp [World.cell?, x.at']
theorem Box13L.c11 {w : World} {g : Nat} {o : Ob} {l d m : Value} (x : Box13L w g o l d m) : w.cell? ⟨g, 11, none⟩ = some (d) := by simp [World.cell?, x.at']
theorem Box13L.c12 {w : World} {g : Nat} {o : Ob} {l d m : Value} (x : Box13L w g o l d m) : w.cell? ⟨g, 12, none⟩ = some (m) := by simp [World.cell?, x.at']
set_option maxHeartbeats 2000000 in
theorem markObj_own (o : Ob) (l d m : Value) (lo hi : Nat) (k0 : Int) (w : World) (h : OwnO lo hi w l d m o) (hlh : lo ≤ hi) (hh : hi ≤ w.heap.size) (hn : obN o ≤ 1048576) (h0 : 0 ≤ k0) (h1 : k0 ≤ 549755813888) :
    Calls Try.prog 18 #[obV o l d m, .int .i64 k0] w fun e w' => e = .returned (.int .i64 (k0 + o.ls.length + o.ds.length + 2 * o.qs.length)) ∧ Turned8 lo hi w w' := by
  unfold obN at hn
  have hA := h.on (lo' := lo) (hi' := hi) (below_alloc w (boxO o l d m)) (Nat.le_refl _) (Nat.le_refl _)
  have ap := apart_ld hA
  have HC : Hid (Calls Try.prog 27 #[l, .int .i64 k0] (w.alloc (boxO o l d m)) fun e w' => e = .returned (.int .i64 (k0 + o.ls.length)) ∧ Touch (Go.Proofs.Ytglpfgachcoheaa.blk l) (w.alloc (boxO o l d m)) w') := (markI_own lo hi l o.ls k0 _ hA.ls (by omega) h0 (by omega)).mono fun e w' h => ⟨h.1, h.2.2⟩
  have HD : Hid (∀ w2, Touch (Go.Proofs.Ytglpfgachcoheaa.blk l) (w.alloc (boxO o l d m)) w2 → Calls Try.prog 27 #[d, .int .i64 (k0 + o.ls.length)] w2 fun e w' => e = .returned (.int .i64 (k0 + o.ls.length + o.ds.length)) ∧ Touch (Go.Proofs.Ytglpfgachcoheaa.blk d) w2 w') := fun w2 ht => (markI_own lo hi d o.ds _ w2 (hA.ds.keepIf fun b x hb hx => ht.block _ _ (ap.1 b hb) hx) (by omega) (by omega) (by omega)).mono fun e w' h => ⟨h.1, h.2.2⟩
  have HQ : Hid (∀ w2 w3, Touch (Go.Proofs.Ytglpfgachcoheaa.blk l) (w.alloc (boxO o l d m)) w2 → Touch (Go.Proofs.Ytglpfgachcoheaa.blk d) w2 w3 → Calls Try.prog 49 #[m, .int .i64 (k0 + o.ls.length + o.ds.length)] w3 fun e w' => e = .returned (.int .i64 (k0 + o.ls.length + o.ds.length + 2 * o.qs.length)) ∧ Touch (Go.Proofs.Ytglpfgachcoheaa.blk m) w3 w') := fun w2 w3 ht ht2 => (markM_own lo hi m o.qs _ w3 (hA.qs.keepIf fun b x hb hx => ht2.block _ _ (ap.2 b hb).2 (ht.block _ _ (ap.2 b hb).1 hx)) (by omega) (by omega) (by omega)).mono fun e w' h => ⟨h.1, h.2.2⟩
  have HNB : Hid (w.heap.size ∉ Go.Proofs.Ytglpfgachcoheaa.blk l ∧ w.heap.size ∉ Go.Proofs.Ytglpfgachcoheaa.blk d) := ⟨fun hb => by have := (h.ls.blk hb).2.2; omega, fun hb => by have := (h.ds.blk hb).2.2; omega⟩
  have HBX : Hid ((w.alloc (boxO o l d m)).heap[w.heap.size]? = some (boxO o l d m)) := heap_alloc_new w _
  have HT : Hid (∀ w2 w3 w4, Touch (Go.Proofs.Ytglpfgachcoheaa.blk l) (w.alloc (boxO o l d m)) w2 → Touch (Go.Proofs.Ytglpfgachcoheaa.blk d) w2 w3 → Touch (Go.Proofs.Ytglpfgachcoheaa.blk m) w3 w4 → Turned8 lo hi w w4) := fun w2 w3 w4 a b c => by
    have t0 : Turned8 lo hi w (w.alloc (boxO o l d m)) := ⟨fun k x hk _ => keep hk (below_alloc w _), fun B w0 hB hb => hb.alloc (by omega) _⟩
    exact ((t0.touch a fun b hb => ⟨(h.ls.blk hb).1, (h.ls.blk hb).2.1⟩).touch b fun b hb => ⟨(h.ds.blk hb).1, (h.ds.blk hb).2.1⟩).touch c fun b hb => ⟨(h.qs.blk hb).1, (h.qs.blk hb).2.1⟩
  clear hA ap h hlh hh hn h0 h1
  have c10 : (w.alloc (boxO o l d m)).cell? ⟨w.heap.size, 10, none⟩ = some l := by have e := HBX.out; simp only [World.cell?, e]; rfl
  go_enter Try.func18, Try.ntmps18
  go_wp2_with fail
  refine HC.out.mono ?_
  rintro e w2 ⟨rfl, ht⟩
  have HT2 := hid_of ht
  have HBX2 : Hid (w2.heap[w.heap.size]? = some (boxO o l d m)) := ht.block _ _ HNB.out.1 HBX.out
  have c11 : w2.cell? ⟨w.heap.size, 11, none⟩ = some d := by simp [World.cell?, HBX2.out]
  clear ht HC c10
  go_wp2_with fail
  refine (HD.out _ HT2.out).mono ?_
  rintro e w3 ⟨rfl, ht⟩
  have HT3 := hid_of ht
  have HBX3 : Hid (w3.heap[w.heap.size]? = some (boxO o l d m)) := ht.block _ _ HNB.out.2 HBX2.out
  have c12 : w3.cell? ⟨w.heap.size, 12, none⟩ = some m := by simp [World.cell?, HBX3.out]
  clear ht HD c11
  go_wp2_with fail
  refine (HQ.out _ _ HT2.out HT3.out).mono ?_
  rintro e w4 ⟨rfl, ht⟩
  have HT4 := hid_of ht
  clear ht HQ c12
  go_wp2
  go_ret
  exact ⟨rfl, HT.out _ _ _ HT2.out HT3.out HT4.out⟩
def PutT (rs : List Ob) (n : Nat) (x : Int) (S : Nat) (u : Value) (w : World) : Prop := ∃ g c fs rest, u = .tuple #[.slice (some ⟨g, 0, none⟩) n c, .int .i64 x] ∧ arOf fs = rs ∧ OwnA g c fs rest S w.heap.size w
def PutS (rs : List Ob) (n : Nat) (S : Nat) (u : Value) (w : World) : Prop := ∃ g c fs rest, u = .slice (some ⟨g, 0, none⟩) n c ∧ arOf fs = rs ∧ OwnA g c fs rest S w.heap.size w
theorem PutT.on {rs : List Ob} {n : Nat} {x : Int} {S : Nat} {u : Value} {w w' : World} (h : PutT rs n x S u w) (hb : Below w.heap.size w w') : PutT rs n x S u w' := by
  obtain ⟨g, c, fs, rest, h1, h2, h3⟩ := h
  exact ⟨g, c, fs, rest, h1, h2, (h3.on hb).wide (Nat.le_refl _) hb.size⟩
theorem PutS.on {rs : List Ob} {n : Nat} {S : Nat} {u : Value} {w w' : World} (h : PutS rs n S u w) (hb : Below w.heap.size w w') : PutS rs n S u w' := by
  obtain ⟨g, c, fs, rest, h1, h2, h3⟩ := h
  exact ⟨g, c, fs, rest, h1, h2, (h3.on hb).wide (Nat.le_refl _) hb.size⟩
/-- What a region leaves that copies both and puts. -/
def gPut (o : Ob) (os rs : List Ob) (n : Nat) (x : Int) (S : Nat) (vs : List Value) (i : Nat) (u : Value) (w : World) : Prop := match i with
  | 1 => ∃ g, u = .slice (some ⟨g, 0, none⟩) n n ∧ IsArena w u os
  | 3 => ∃ l d m, u = obV o l d m ∧ Lists w l d m o
  | 4 => PutT rs n x S u w
  | 5 => PutT rs n x S u w
  | 6 => PutS rs n S u w
  | 8 => PutS rs n S u w
  | i => u = vs.getD i undef
theorem gPut_on {o : Ob} {os rs : List Ob} {n : Nat} {x : Int} {S : Nat} {vs : List Value} {w w' : World} (hb : Below w.heap.size w w') (i : Nat) (u : Value) (h : gPut o os rs n x S vs i u w) : gPut o os rs n x S vs i u w' := by
  unfold gPut at h ⊢
  split
  · obtain ⟨g, e, h1⟩ := h; exact ⟨g, e, h1.on hb⟩
  · obtain ⟨l, d, m, e, h1⟩ := h; exact ⟨l, d, m, e, h1.on hb⟩
  · exact h.on hb
  · exact h.on hb
  · exact h.on hb
  · exact h.on hb
  · split at h
    · rename_i hne _ _ _ _ _; exact absurd rfl hne
    · rename_i hne _ _ _ _; exact absurd rfl hne
    · rename_i hne _ _ _; exact absurd rfl hne
    · rename_i hne _ _; exact absurd rfl hne
    · rename_i hne _; exact absurd rfl hne
    · rename_i hne; exact absurd rfl hne
    · exact h
/-- What a region leaves that copies a thing: its third value is such a copy. -/
def gObj (o : Ob) (vs : List Value) (i : Nat) (u : Value) (w : World) : Prop := match i with
  | 2 => ∃ l d m, u = obV o l d m ∧ Lists w l d m o
  | i => u = vs.getD i undef
theorem gObj_on {o : Ob} {vs : List Value} {w w' : World} (hb : Below w.heap.size w w') (i : Nat) (u : Value) (h : gObj o vs i u w) : gObj o vs i u w' := by
  unfold gObj at h ⊢
  split
  · obtain ⟨l, d, m, e, h1⟩ := h
    exact ⟨l, d, m, e, h1.on hb⟩
  · rename_i hne
    split at h
    · exact absurd rfl hne
    · exact h
end Go.Proofs.Ytglpfgachcoheaa
