/-
  Marks on what a collector knows, and held. Heaps of the call's own: marks on them, held. What the laws keep whose calls answer heaps.
-/
import Derived.Test.YtbdljoldblpffaaGreatHeapT
import Derived.Test.YtbdljoldblpffaaGreatMarkO8
import Derived.Test.YtbdljoldblpffaaGreatNew8
import Derived.Test.YtbdljoldblpffaaGreatLawHB
namespace Go.Proofs.YtbdljoldblpffaaGreat
open Go.RowKit
set_option linter.unusedVariables false
set_option maxRecDepth 100000

theorem turned_alloc {lo hi : Nat} {w : World} (o : Obj) (hl : lo ≤ w.heap.size) : Turned8 lo hi w (w.alloc o) := ⟨fun k x h _ => keep h (below_alloc w o), fun B w0 hB h => h.alloc (by omega) _⟩
theorem Turned8.then {lo hi : Nat} {w w1 w2 : World} (h1 : Turned8 lo hi w w1) (h2 : Turned8 lo hi w1 w2) : Turned8 lo hi w w2 :=
  ⟨fun k x h hc => h2.block k x (h1.block k x h hc) hc, fun B w0 hB h => h2.below B w0 hB (h1.below B w0 hB h)⟩
theorem Turned8.wide {lo hi lo' hi' : Nat} {w w1 : World} (h : Turned8 lo hi w w1) (h1 : lo' ≤ lo) (h2 : hi ≤ hi') : Turned8 lo' hi' w w1 :=
  ⟨fun k x hk hc => h.block k x hk (by omega), fun B w0 hB hb => h.below B w0 (by omega) hb⟩
theorem turned_touch {lo hi : Nat} {w w1 : World} {bs : List Nat} (ht : Touch bs w w1) (hb : ∀ b, b ∈ bs → lo ≤ b ∧ b < hi) : Turned8 lo hi w w1 := (Turned8.refl lo hi w).touch ht hb
theorem turned_of_below (lo hi : Nat) {w w' : World} (h : Below w.heap.size w w') (hl : lo ≤ w.heap.size) : Turned8 lo hi w w' := ⟨fun k x hk _ => keep hk h, fun B w0 hB hb => hb.trans (h.mono (by omega))⟩
theorem ownI_on {lo hi : Nat} {w w' : World} {v : Value} {xs : List Int} (h : OwnI lo hi w v xs) (hb : Below w.heap.size w w') : OwnI lo hi w' v xs := h.move (fun g x _ _ hx => keep hx hb) (Nat.le_refl _) (Nat.le_refl _)
theorem ownI_turned {lo hi l0 h0 : Nat} {w w' : World} {v : Value} {xs : List Int} (h : OwnI lo hi w v xs) (ht : Turned8 l0 h0 w w') (hd : hi ≤ l0 ∨ h0 ≤ lo) : OwnI lo hi w' v xs := h.move (fun g x h1 h2 hx => ht.block _ _ hx (by omega)) (Nat.le_refl _) (Nat.le_refl _)
theorem markGc_own (lo hi : Nat) (p t r : Int) (g : Value) (xs : List Int) (k0 : Int) (w : World) (h : OwnI lo hi w g xs) (hn : xs.length ≤ 1048576) (h0 : 0 ≤ k0) (h1 : k0 ≤ 1099511627776) (hlo : lo ≤ w.heap.size) :
    Calls Tryz.prog 35 #[gcV p t r g, .int .i64 k0] w fun e w' => e = .returned (.int .i64 (k0 + xs.length)) ∧ OwnI lo hi w' g (upFrom k0 xs.length) ∧ Turned8 lo hi w w' := by
  have C := markI_own lo hi g xs k0 (w.alloc (boxG p t r g)) (ownI_on h (below_alloc w _)) hn h0 h1
  have HT : Hid (Turned8 lo hi w (w.alloc (boxG p t r g))) := turned_alloc _ hlo
  have HB : Hid (∀ b, b ∈ Go.Proofs.YtbdljoldblpffaaGreat.blk g → lo ≤ b ∧ b < hi) := fun b hb => ⟨(h.blk hb).1, (h.blk hb).2.1⟩
  obtain ⟨a, c, rfl, _, _⟩ := id h
  clear h hn h0 h1 hlo
  go_enter Tryz.func35, Tryz.ntmps35
  go_wp2_with fail
  refine C.mono ?_
  rintro e w1 ⟨rfl, ho, ht⟩
  have HO := hid_of (show OwnI lo hi w1 (.slice a xs.length c) (upFrom k0 xs.length) ∧ Turned8 lo hi w w1 from ⟨ho, HT.out.touch ht HB.out⟩)
  clear ho ht C
  go_wp2
  go_ret
  exact ⟨rfl, HO.out⟩
theorem heldGc_up (p t r : Int) (g : Value) (n : Nat) (k0 : Int) (w : World) (hx : IsInts w g (upFrom k0 n)) (hn : n ≤ 1048576) (h0 : 0 ≤ k0) (h1 : k0 ≤ 1099511627776) :
    Calls Tryz.prog 37 #[gcV p t r g, .int .i64 k0] w fun e w' => e = .returned (.int .i64 (k0 + n)) ∧ Below w.heap.size w w' := by
  have C := heldIntS_up g n k0 (w.alloc (boxG p t r g)) (hx.on (below_alloc w _)) hn h0 h1
  have hz : ¬ (k0 + (n : Int) < 0) := by omega
  obtain ⟨a, c, rfl, _, _⟩ := hx
  generalize (k0 + (n : Int)) = z at C hz ⊢
  clear hn h0 h1
  go_enter Tryz.func37, Tryz.ntmps37
  go_wp2_with fail
  refine C.mono ?_
  rintro e w1 ⟨rfl, rfl⟩
  go_wp2
  go_ret
  exact ⟨rfl, by go_grown⟩
theorem implGcNew_any (w : World) :
    Calls Tryz.prog 109 #[] w fun e w' => (∃ g, e = .returned (gcV 0 0 0 (.slice (some ⟨g, 0, none⟩) 1 1)) ∧ OwnI w.heap.size w'.heap.size w' (.slice (some ⟨g, 0, none⟩) 1 1) [0]) ∧ Below w.heap.size w w' := by
  go_enter Tryz.func109, Tryz.ntmps109
  go_wp2
  refine bodyPost_ret (v := gcV 0 0 0 (.slice (some ⟨w.heap.size + 1, 0, none⟩) 1 1)) (by simp [results, go_sem]) rfl ⟨⟨w.heap.size + 1, rfl, ?_⟩, by go_grown⟩
  have e := heap_alloc_new (w.alloc (boxG 0 0 0 (.slice (some ⟨w.heap.size + 1, 0, none⟩) 1 1))) (.cells #[.int .i64 0] 3 (0, 0))
  exact RowIn.own (xs := [0]) (rs := []) (n := 1) (g := w.heap.size + 1) (by unfold RowIn; simpa [icells] using e) (by omega) (by simp) (by decide) rfl (by decide)
theorem cells4 {w : World} {b : Nat} {v0 v1 v2 v3 : Value} {T : TypeId} (h : w.heap[b]? = some (.cells #[v0, v1, v2, v3] T (0, 0))) : w.cell? ⟨b, 0, none⟩ = some v0 ∧ w.cell? ⟨b, 1, none⟩ = some v1 ∧ w.cell? ⟨b, 2, none⟩ = some v2 ∧ w.cell? ⟨b, 3, none⟩ = some v3 := by
  refine ⟨?_, ?_, ?_, ?_⟩ <;> simp [World.cell?, h]
end Go.Proofs.YtbdljoldblpffaaGreat
namespace Go.Proofs.YtbdljoldblpffaaGreat
open Go.RowKit
set_option linter.unusedVariables false
set_option maxRecDepth 100000

/-- A heap of the call's own: no block of the one list is one of the things'. -/
def GotH (lo hi : Nat) (os : List Ob) (xs : List Int) (A G : Value) (w : World) : Prop := ∃ g c fs rest la ha, A = .slice (some ⟨g, 0, none⟩) os.length c ∧ arOf fs = os ∧ OwnA g c fs rest la ha w ∧ OwnI lo hi w G xs ∧ (∀ b, b ∈ Go.Proofs.YtbdljoldblpffaaGreat.blk G → b < la ∨ ha ≤ b) ∧ lo ≤ la ∧ ha ≤ hi ∧ ha ≤ w.heap.size
theorem GotH.on {lo hi : Nat} {os : List Ob} {xs : List Int} {A G : Value} {w w' : World} (h : GotH lo hi os xs A G w) (hb : Below w.heap.size w w') : GotH lo hi os xs A G w' := by
  obtain ⟨g, c, fs, rest, la, ha, h1, h2, h3, h4, h5, h6, h7, h8⟩ := h
  exact ⟨g, c, fs, rest, la, ha, h1, h2, h3.on hb, ownI_on h4 hb, h5, h6, h7, Nat.le_trans h8 hb.size⟩
theorem turned_size {lo hi : Nat} {w w' : World} (ht : Turned8 lo hi w w') : w.heap.size ≤ w'.heap.size := (ht.below 0 w (Nat.zero_le _) (Below.refl _ _)).size
theorem GotH.turned {lo hi l0 h0 : Nat} {os : List Ob} {xs : List Int} {A G : Value} {w w' : World} (h : GotH lo hi os xs A G w) (ht : Turned8 l0 h0 w w') (hd : hi ≤ l0 ∨ h0 ≤ lo) : GotH lo hi os xs A G w' := by
  obtain ⟨g, c, fs, rest, la, ha, h1, h2, h3, h4, h5, h6, h7, h8⟩ := h
  exact ⟨g, c, fs, rest, la, ha, h1, h2, h3.turned ht (by omega), ownI_turned h4 ht hd, h5, h6, h7, Nat.le_trans h8 (turned_size ht)⟩
theorem GotH.wide {lo hi lo' hi' : Nat} {os : List Ob} {xs : List Int} {A G : Value} {w : World} (h : GotH lo hi os xs A G w) (h1 : lo' ≤ lo) (h2 : hi ≤ hi') : GotH lo' hi' os xs A G w := by
  obtain ⟨g, c, fs, rest, la, ha, e1, e2, e3, e4, e5, e6, e7, e8⟩ := h
  exact ⟨g, c, fs, rest, la, ha, e1, e2, e3, e4.move (fun _ _ _ _ x => x) h1 h2, e5, by omega, by omega, e8⟩
theorem GotH.arena {lo hi : Nat} {os : List Ob} {xs : List Int} {A G : Value} {w : World} (h : GotH lo hi os xs A G w) : IsArena w A os := by
  obtain ⟨g, c, fs, rest, la, ha, rfl, h2, h3, _⟩ := h
  exact own_is h2 h3
theorem GotH.ints {lo hi : Nat} {os : List Ob} {xs : List Int} {A G : Value} {w : World} (h : GotH lo hi os xs A G w) : IsInts w G xs := by
  obtain ⟨g, c, fs, rest, la, ha, _, _, _, h4, _⟩ := h
  exact h4.ints
theorem GotH.form {lo hi : Nat} {os : List Ob} {xs : List Int} {A G : Value} {w : World} (h : GotH lo hi os xs A G w) : ∃ g c u k, A = .slice (some ⟨g, 0, none⟩) os.length c ∧ G = .slice u xs.length k := by
  obtain ⟨g, c, fs, rest, la, ha, h1, _, _, ⟨u, k, h4, _⟩, _⟩ := h
  exact ⟨g, c, u, k, h1, h4⟩
/-- A heap that a call answers. -/
def AnsH (p t r : Int) (os : List Ob) (xs : List Int) (w : World) (e : Ending) (w' : World) : Prop := (∃ A G, e = .returned (hpV A p t r G) ∧ GotH w.heap.size w'.heap.size os xs A G w') ∧ Below w.heap.size w w'
theorem toHeap_got (a : Value) (p t r : Int) (g : Value) (os : List Ob) (xs : List Int) (w : World) (ha : IsArena w a os) (hx : IsInts w g xs) (hl : os.length ≤ 1048576) (hs : ∀ i, obN (obAt os i) ≤ 1048576) (hn : xs.length ≤ 1048576) :
    Calls Tryz.prog 9 #[hpV a p t r g] w fun e w' => AnsH p t r os xs w e w' :=
  (toHeap_any a p t r g os xs w ha hx hl hs hn).mono fun e w' h => by
    obtain ⟨⟨b, m, u, he, ⟨fs, h1, h2⟩, h3, hm1, hm2⟩, hb⟩ := h
    exact ⟨⟨_, _, he, b, _, fs, [], w.heap.size, m, rfl, h1, h2, h3.move (fun _ _ _ _ x => x) hm1 (Nat.le_refl _), fun k hk => .inr (h3.blk hk).1, Nat.le_refl _, hm2, hm2⟩, hb⟩
/-- Things of the call's own are kept by what is written into none of their blocks. -/
theorem OwnA.keepIn2 {g cap : Nat} {es : List El} {rest : List Value} {lo hi : Nat} {w w' : World} (h : OwnA g cap es rest lo hi w) (hk : ∀ k x, lo ≤ k → k < hi → w.heap[k]? = some x → w'.heap[k]? = some x) : OwnA g cap es rest lo hi w' :=
  ⟨hk _ _ h.lo h.hi h.at', h.cap, h.lo, h.hi, fun i hi' => (h.own i hi').move (fun b' x h1 h2 hx => hk b' x h1 h2 hx) (Nat.le_refl _) (Nat.le_refl _), h.ne, h.apart⟩
theorem markGc_all (lo hi : Nat) (p t r : Int) (g : Value) (xs : List Int) (k0 : Int) (w : World) (h : OwnI lo hi w g xs) (hn : xs.length ≤ 1048576) (h0 : 0 ≤ k0) (h1 : k0 ≤ 1099511627776) (hlo : lo ≤ w.heap.size) :
    Calls Tryz.prog 35 #[gcV p t r g, .int .i64 k0] w fun e w' => e = .returned (.int .i64 (k0 + xs.length)) ∧ OwnI lo hi w' g (upFrom k0 xs.length) ∧ Turned8 lo hi w w' ∧ ∀ k x, k ∉ Go.Proofs.YtbdljoldblpffaaGreat.blk g → w.heap[k]? = some x → w'.heap[k]? = some x := by
  have C := markI_own lo hi g xs k0 (w.alloc (boxG p t r g)) (ownI_on h (below_alloc w _)) hn h0 h1
  have HT : Hid (Turned8 lo hi w (w.alloc (boxG p t r g)) ∧ ∀ (k : Nat) x, w.heap[k]? = some x → (w.alloc (boxG p t r g)).heap[k]? = some x) := ⟨turned_alloc _ hlo, fun k x hx => keep hx (below_alloc w _)⟩
  have HB : Hid (∀ b, b ∈ Go.Proofs.YtbdljoldblpffaaGreat.blk g → lo ≤ b ∧ b < hi) := fun b hb => ⟨(h.blk hb).1, (h.blk hb).2.1⟩
  obtain ⟨a, c, rfl, _, _⟩ := id h
  clear h hn h0 h1 hlo
  go_enter Tryz.func35, Tryz.ntmps35
  go_wp2_with fail
  refine C.mono ?_
  rintro e w1 ⟨rfl, ho, ht⟩
  have HO := hid_of (show OwnI lo hi w1 (.slice a xs.length c) (upFrom k0 xs.length) ∧ Turned8 lo hi w w1 ∧ ∀ k x, k ∉ Go.Proofs.YtbdljoldblpffaaGreat.blk (.slice a xs.length c) → w.heap[k]? = some x → w1.heap[k]? = some x from ⟨ho, HT.out.1.touch ht HB.out, fun k x hk hx => ht.block k x hk (HT.out.2 k x hx)⟩)
  clear ho ht C
  go_wp2
  go_ret
  exact ⟨rfl, HO.out⟩
set_option maxHeartbeats 4000000 in
theorem markHeap_own (lo hi : Nat) (p t r : Int) (A G : Value) (os : List Ob) (xs : List Int) (w : World) (h : GotH lo hi os xs A G w) (hl : ((os.length : Int) + arN os) ≤ 1048576) (hn : xs.length ≤ 1048576) (hlo : lo ≤ w.heap.size) (hhi : hi ≤ w.heap.size) :
    Calls Tryz.prog 12 #[hpV A p t r G, .int .i64 1] w fun e w' => e = .returned (.int .i64 (1 + stepS os + xs.length)) ∧ GotH lo hi (upArena 1 os) (upFrom (1 + stepS os) xs.length) A G w' ∧ Turned8 lo hi w w' := by
  have hsn := stepS_bound os
  have hG := h.on (below_alloc w (boxH A p t r G))
  have hT := turned_alloc (hi := hi) (boxH A p t r G) hlo
  have hV := heap_alloc_new w (boxH A p t r G)
  have hbl : ∀ b, b ∈ Go.Proofs.YtbdljoldblpffaaGreat.blk G → lo ≤ b ∧ b < hi := by
    obtain ⟨g, c, fs, rest, la, ha, _, _, _, h4, _⟩ := h
    exact fun b hb => ⟨(h4.blk hb).1, (h4.blk hb).2.1⟩
  obtain ⟨g, c, fs, rest, la, ha, rfl, h2, h3, h4, h5, h6, h7, h8⟩ := hG
  obtain ⟨u, k, rfl, _, _⟩ := id h4
  obtain ⟨V, hVV⟩ : ∃ V, V = w.alloc (boxH (.slice (some ⟨g, 0, none⟩) os.length c) p t r (.slice u xs.length k)) := ⟨_, rfl⟩
  have hfl : fs.length = os.length := by rw [← h2, arOf_length]
  have hVS : V.heap.size = w.heap.size + 1 := by rw [hVV]; simp
  rw [← hVV] at h3 h4 h8 hT hV
  have CA : Hid (Calls Tryz.prog 34 #[.slice (some ⟨g, 0, none⟩) os.length c, .int .i64 1] V fun e w' => e = .returned (.int .i64 (1 + stepS os)) ∧ (∃ fs', arOf fs' = upArena 1 os ∧ OwnA g c fs' rest la ha w') ∧ Turned8 la ha V w') := by
    have e := markObjS_own g c os.length fs rest la ha V h3 hfl.symm (by rw [h2]; exact hl)
    rw [h2] at e
    exact e
  have HK : Hid (∀ w1, Turned8 la ha V w1 → OwnI lo hi w1 (.slice u xs.length k) xs ∧ w1.heap[w.heap.size]? = some (boxH (.slice (some ⟨g, 0, none⟩) os.length c) p t r (.slice u xs.length k)) ∧ Turned8 lo hi w w1) := fun w1 ht => by
    refine ⟨h4.keepIf fun b x hb hx => ht.block b x hx (h5 b hb), ht.block _ _ hV (by omega), hT.then (ht.wide h6 h7)⟩
  have HM : Hid (∀ w1, OwnI lo hi w1 (.slice u xs.length k) xs → lo ≤ w1.heap.size → Calls Tryz.prog 35 #[gcV p t r (.slice u xs.length k), .int .i64 (1 + stepS os)] w1 fun e w' => e = .returned (.int .i64 (1 + stepS os + xs.length)) ∧ OwnI lo hi w' (.slice u xs.length k) (upFrom (1 + stepS os) xs.length) ∧ Turned8 lo hi w1 w' ∧ ∀ k' x, k' ∉ Go.Proofs.YtbdljoldblpffaaGreat.blk (.slice u xs.length k) → w1.heap[k']? = some x → w'.heap[k']? = some x) := fun w1 h hz => markGc_all lo hi p t r _ xs (1 + stepS os) w1 h hn (by omega) (by omega) hz
  have HF : Hid ((∀ b, b ∈ Go.Proofs.YtbdljoldblpffaaGreat.blk (.slice u xs.length k) → b < la ∨ ha ≤ b) ∧ lo ≤ la ∧ ha ≤ hi ∧ ha ≤ V.heap.size ∧ lo ≤ V.heap.size) := ⟨h5, h6, h7, h8, by omega⟩
  generalize 1 + stepS os = z at CA HM ⊢
  clear h h2 h3 h4 h5 h6 h7 h8 hl hn hlo hhi hsn hV hT hfl hbl hVS
  go_enter Tryz.func12, Tryz.ntmps12
  go_wp2_with fail
  rw [← hVV]
  refine CA.out.mono ?_
  rintro e w1 ⟨rfl, ho, ht⟩
  have HO := hid_of ho
  have H1 := hid_of (HK.out _ ht)
  have HZ : Hid (V.heap.size ≤ w1.heap.size) := turned_size ht
  obtain ⟨k0, k1, k2, k3, k4⟩ := cells5 H1.out.2.1
  clear ho ht CA HK
  go_wp2_with fail
  refine (HM.out _ H1.out.1 (by have := HZ.out; have := HF.out.2.2.2.2; omega)).mono ?_
  rintro e w2 ⟨rfl, ho2, ht2, hk2⟩
  have H2 : Hid (GotH lo hi (upArena 1 os) (upFrom z xs.length) (.slice (some ⟨g, 0, none⟩) os.length c) (.slice u xs.length k) w2 ∧ Turned8 lo hi w w2) := by
    obtain ⟨fs', e1, e2⟩ := HO.out
    have hq := HF.out
    refine ⟨⟨g, c, fs', rest, la, ha, by rw [upArena_length], e1, e2.keepIn2 (fun b x h1 h2 hx => hk2 b x (fun hm => by have := hq.1 b hm; omega) hx), ho2, hq.1, hq.2.1, hq.2.2.1, ?_⟩, H1.out.2.2.then ht2⟩
    have := HZ.out
    have := turned_size ht2
    have := hq.2.2.2.1
    omega
  clear k0 k1 k2 k3 k4 ho2 ht2 hk2 HM H1 HO
  go_wp2
  go_ret
  exact ⟨rfl, H2.out⟩
theorem heldHeap_up (p t r : Int) (A G : Value) (os : List Ob) (n : Nat) (w : World) (ha : IsArena w A (upArena 1 os)) (hx : IsInts w G (upFrom (1 + stepS os) n)) (hl : ((os.length : Int) + arN os) ≤ 1048576) (hn : n ≤ 1048576) :
    Calls Tryz.prog 13 #[hpV A p t r G, .int .i64 1] w fun e w' => e = .returned (.int .i64 (1 + stepS os + n)) ∧ Below w.heap.size w w' := by
  have hsn := stepS_bound os
  have CA := heldObjS_up A os (w.alloc (boxH A p t r G)) (ha.on (below_alloc w _)) hl
  have CG := heldGc_up p t r G n (1 + stepS os) (w.alloc (boxH A p t r G)) (hx.on (below_alloc w _)) hn (by omega) (by omega)
  have hz1 : ¬ (1 + stepS os < 0) := by omega
  have hz2 : ¬ (1 + stepS os + (n : Int) < 0) := by omega
  obtain ⟨aa, ca, rfl, _, _⟩ := ha
  obtain ⟨ag, cg, rfl, _, _⟩ := hx
  generalize 1 + stepS os = z at CA CG hz1 hz2 ⊢
  clear hl hn hsn
  go_enter Tryz.func13, Tryz.ntmps13
  go_wp2_with fail
  refine CA.mono ?_
  rintro e w1 ⟨rfl, rfl⟩
  clear CA
  go_wp2_with fail
  refine CG.mono ?_
  rintro e w2 ⟨rfl, hb⟩
  have HB : Hid (Below w.heap.size w w2) := (below_alloc w _).trans (hb.mono (by simp))
  clear hb CG
  go_wp2
  go_ret
  exact ⟨rfl, HB.out⟩
end Go.Proofs.YtbdljoldblpffaaGreat
namespace Go.Proofs.YtbdljoldblpffaaGreat
open Go.RowKit
set_option linter.unusedVariables false
set_option maxRecDepth 100000

/-- A heap of its own in a box of the law. -/
structure InBox (w : World) (lo hi b : Nat) (p t r : Int) (os : List Ob) (xs : List Int) (A G : Value) (wz : World) : Prop where
  base : Below w.heap.size w wz
  box : wz.heap[b]? = some (boxH A p t r G)
  got : GotH lo hi os xs A G wz
  low : w.heap.size < lo
  lh : lo ≤ hi
  mid : hi ≤ b
theorem InBox.on {w : World} {lo hi b : Nat} {p t r : Int} {os : List Ob} {xs : List Int} {A G : Value} {wz w' : World} (h : InBox w lo hi b p t r os xs A G wz) (hb : Below wz.heap.size wz w') : InBox w lo hi b p t r os xs A G w' :=
  ⟨below_more h.base hb, keep h.box hb, h.got.on hb, h.low, h.lh, h.mid⟩
theorem InBox.turned {w : World} {lo hi b : Nat} {p t r : Int} {os : List Ob} {xs : List Int} {A G : Value} {l0 h0 : Nat} {wz w' : World} (h : InBox w lo hi b p t r os xs A G wz) (ht : Turned8 l0 h0 wz w') (hw : w.heap.size ≤ l0) (hd : b < l0 ∨ h0 ≤ lo) : InBox w lo hi b p t r os xs A G w' :=
  ⟨ht.below _ _ hw h.base, ht.block _ _ h.box (by have := h.mid; have := h.lh; omega), h.got.turned ht (by have := h.mid; omega), h.low, h.lh, h.mid⟩
theorem InBox.made {w w1 w2 : World} {p t r : Int} {os : List Ob} {xs : List Int} {A G : Value} (hb : Below w.heap.size w w1) (hs : w.heap.size < w1.heap.size) (hg : GotH w1.heap.size w2.heap.size os xs A G w2) (hb2 : Below w1.heap.size w1 w2) : InBox w w1.heap.size w2.heap.size w2.heap.size p t r os xs A G (w2.alloc (boxH A p t r G)) :=
  ⟨(below_more hb hb2).trans ((below_alloc w2 _).mono (by have := hb.size; have := hb2.size; omega)), heap_alloc_new w2 _, hg.on (below_alloc w2 _), hs, hb2.size, Nat.le_refl _⟩
/-- It is marked. -/
theorem InBox.marked {w : World} {lo hi b : Nat} {p t r : Int} {os os' : List Ob} {xs xs' : List Int} {A G : Value} {wz w' : World} (h : InBox w lo hi b p t r os xs A G wz) (ht : Turned8 lo hi wz w') (hg : GotH lo hi os' xs' A G w') : InBox w lo hi b p t r os' xs' A G w' :=
  ⟨ht.below _ _ (Nat.le_of_lt h.low) h.base, ht.block _ _ h.box (.inr h.mid), hg, h.low, h.lh, h.mid⟩
theorem InBox.size {w : World} {lo hi b : Nat} {p t r : Int} {os : List Ob} {xs : List Int} {A G : Value} {wz : World} (h : InBox w lo hi b p t r os xs A G wz) : lo ≤ wz.heap.size ∧ hi ≤ wz.heap.size := by
  have := lt_of_block h.box
  have := h.mid
  have := h.lh
  omega
structure LawX (w : World) (a g : Value) (p t r : Int) (os : List Ob) (xs : List Int) (l2 h2 b2 : Nat) (A2 G2 : Value) (p' t' r' : Int) (rs : List Ob) (ys : List Int) (l1 h1 b1 : Nat) (A1 G1 : Value) (l3 h3 b3 : Nat) (A3 G3 : Value) (wz : World) : Prop where
  arg : wz.heap[w.heap.size]? = some (boxHL a p t r g)
  x1 : InBox w l1 h1 b1 p' t' r' rs ys A1 G1 wz
  x2 : InBox w l2 h2 b2 p t r os xs A2 G2 wz
  x3 : InBox w l3 h3 b3 p' t' r' rs ys A3 G3 wz
  n12 : b1 < l2
  n23 : b2 < l3
section
variable {w : World} {a g : Value} {p t r : Int} {os : List Ob} {xs : List Int} {l2 h2 b2 : Nat} {A2 G2 : Value} {p' t' r' : Int} {rs : List Ob} {ys : List Int} {l1 h1 b1 : Nat} {A1 G1 : Value} {l3 h3 b3 : Nat} {A3 G3 : Value} {wz w' : World}
theorem LawX.on (h : LawX w a g p t r os xs l2 h2 b2 A2 G2 p' t' r' rs ys l1 h1 b1 A1 G1 l3 h3 b3 A3 G3 wz) (hb : Below wz.heap.size wz w') : LawX w a g p t r os xs l2 h2 b2 A2 G2 p' t' r' rs ys l1 h1 b1 A1 G1 l3 h3 b3 A3 G3 w' :=
  ⟨keep h.arg hb, h.x1.on hb, h.x2.on hb, h.x3.on hb, h.n12, h.n23⟩
theorem LawX.base (h : LawX w a g p t r os xs l2 h2 b2 A2 G2 p' t' r' rs ys l1 h1 b1 A1 G1 l3 h3 b3 A3 G3 wz) : Below w.heap.size w wz := h.x1.base
theorem LawX.box (h : LawX w a g p t r os xs l2 h2 b2 A2 G2 p' t' r' rs ys l1 h1 b1 A1 G1 l3 h3 b3 A3 G3 wz) : wz.heap[b2]? = some (boxH A2 p t r G2) := h.x2.box
theorem LawX.ar (h : LawX w a g p t r os xs l2 h2 b2 A2 G2 p' t' r' rs ys l1 h1 b1 A1 G1 l3 h3 b3 A3 G3 wz) : IsArena wz A2 os := h.x2.got.arena
theorem LawX.gr (h : LawX w a g p t r os xs l2 h2 b2 A2 G2 p' t' r' rs ys l1 h1 b1 A1 G1 l3 h3 b3 A3 G3 wz) : IsInts wz G2 xs := h.x2.got.ints
/-- What was handed in is marked. -/
theorem LawX.turn2 (h : LawX w a g p t r os xs l2 h2 b2 A2 G2 p' t' r' rs ys l1 h1 b1 A1 G1 l3 h3 b3 A3 G3 wz) (ht : Turned8 l2 h2 wz w') {os' : List Ob} {xs' : List Int} (hg : GotH l2 h2 os' xs' A2 G2 w') : LawX w a g p t r os' xs' l2 h2 b2 A2 G2 p' t' r' rs ys l1 h1 b1 A1 G1 l3 h3 b3 A3 G3 w' :=
  ⟨ht.block _ _ h.arg (by have := h.x2.low; omega), h.x1.turned ht (Nat.le_of_lt h.x2.low) (.inl h.n12), h.x2.marked ht hg, h.x3.turned ht (Nat.le_of_lt h.x2.low) (.inr (by have := h.x2.mid; have := h.n23; omega)), h.n12, h.n23⟩
end
end Go.Proofs.YtbdljoldblpffaaGreat
