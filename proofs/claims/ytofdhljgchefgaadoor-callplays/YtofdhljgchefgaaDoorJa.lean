/- Boxes of calls as they lie in memory: the table of numbers, the queues of the cores; what call's on, Send, Take, Move, Has, Load and List answer and leave. -/
import Derived.Test.YtofdhljgchefgaaDoorRows
import Derived.Test.YtofdhljgchefgaaDoorCq
import Derived.WalkKit
import Derived.ProofKit
import Derived.OpenShut
import Derived.BigQuiet
namespace Go.Proofs.YtofdhljgchefgaaDoor
open Go.ChangeShapes Go.WideShapes Go.ChangeAt Go.RowKit
open Fm Sl Cm

/-- Where core c's ring lies. -/
def ca (s c : Nat) : Nat := s + 4 + 2 * c
/-- All blocks of it. -/
def cz (s p : Nat) : List Nat := List.range' s (4 + 2 * p)
theorem mem_cz (s p k : Nat) : k ∈ cz s p ↔ s ≤ k ∧ k < s + (4 + 2 * p) := by unfold cz; rw [List.mem_range'_1]

/-- A box at s + 3, its numbers at s + 1, the table of its queues at s + 2. -/
structure CB (w : World) (s : Nat) (K : Ks) (W : List Nat) (O : Nat → Bool) : Prop where
  st : Blk w (s + 3) [.pointer (some ⟨s + 1, 0, none⟩), .slice (some ⟨s + 2, 0, none⟩) K.length K.length] 75
  tb : Blk w (s + 2) (qtab (ca s) K.length) 60
  sl : T w (s + 1) s 32 W O
  qs : QS w (ca s) K.length K
  n1 : 1 ≤ K.length
  n2 : K.length ≤ 64

section
variable {w w' : World} {s : Nat} {K : Ks} {W : List Nat} {O : Nat → Bool}
theorem CB.hi (h : CB w s K W O) : s + (4 + 2 * K.length) ≤ w.heap.size := by
  have := (h.qs (K.length - 1) (by have := h.n1; omega)).lt
  have := h.n1
  unfold ca at *
  omega
theorem CB.c0 (h : CB w s K W O) : w.cell? ⟨s + 3, 0, none⟩ = some (.pointer (some ⟨s + 1, 0, none⟩)) := h.st.cell 0
theorem CB.c1 (h : CB w s K W O) : w.cell? ⟨s + 3, 1, none⟩ = some (.slice (some ⟨s + 2, 0, none⟩) K.length K.length) := h.st.cell 1
theorem CB.cq (h : CB w s K W O) {c : Nat} (hc : c < K.length) : w.cell? ⟨s + 2, c, none⟩ = some (.pointer (some ⟨ca s c + 1, 0, none⟩)) := by
  rw [h.tb.cell c, qtab_get _ _ _ hc]
theorem CB.heap {w1 : World} (h : CB w s K W O) (e : w1.heap = w.heap) : CB w1 s K W O := ⟨h.st.heap e, h.tb.heap e, h.sl.heap e, h.qs.heap e, h.n1, h.n2⟩
theorem CB.keep {B : Nat} {S : List Nat} (h : CB w s K W O) (f : Fr B S w w') (hB : w.heap.size ≤ B) (hS : ∀ k, s ≤ k → k < s + (4 + 2 * K.length) → k ∉ S) : CB w' s K W O := by
  have hi := h.hi
  refine ⟨h.st.keep f (by omega) (hS _ (by omega) (by omega)), h.tb.keep f (by omega) (hS _ (by omega) (by omega)), h.sl.keep f ⟨by omega, by omega⟩ ⟨hS _ (by omega) (by omega), hS _ (by omega) (by omega)⟩, h.qs.keep f hB fun c hc => ⟨hS _ (by unfold ca; omega) (by unfold ca; omega), hS _ (by unfold ca; omega) (by unfold ca; omega)⟩, h.n1, h.n2⟩
/-- One queue has turned. -/
theorem CB.put (h : CB w s K W O) {c : Nat} (hc : c < K.length) {X : List Int} (q : QB w' (ca s c) X) (f : Fr w.heap.size [ca s c + 1, ca s c] w w') : CB w' s (K.set c X) W O ∧ Fr w.heap.size (cz s K.length) w w' := by
  have hi := h.hi
  have nz : ∀ k, k < s + 4 → k ∉ [ca s c + 1, ca s c] := fun k hk e => by simp at e; unfold ca at e; omega
  refine ⟨⟨?_, ?_, h.sl.keep f ⟨by omega, by omega⟩ ⟨nz _ (by omega), nz _ (by omega)⟩, ?_, by simpa using h.n1, by simpa using h.n2⟩, f.mono (Nat.le_refl _) fun k _ hk e => hk ((mem_cz s _ k).2 (by simp at e; unfold ca at e; omega))⟩
  · rw [List.length_set]
    exact h.st.keep f (by omega) (nz _ (by omega))
  · rw [List.length_set]
    exact h.tb.keep f (by omega) (nz _ (by omega))
  · rw [List.length_set]
    exact h.qs.put hc (fun d hd e => by unfold ca; omega) q f
/-- The numbers have turned. -/
theorem CB.slot (h : CB w s K W O) {W' : List Nat} {O' : Nat → Bool} (q : T w' (s + 1) s 32 W' O') (f : Fr w.heap.size [s + 1, s] w w') : CB w' s K W' O' ∧ Fr w.heap.size (cz s K.length) w w' := by
  have hi := h.hi
  have nz : ∀ k, s + 2 ≤ k → k ∉ [s + 1, s] := fun k hk e => by simp at e; omega
  refine ⟨⟨h.st.keep f (by omega) (nz _ (by omega)), h.tb.keep f (by omega) (nz _ (by omega)), q, h.qs.keep f (Nat.le_refl _) fun c hc => ⟨nz _ (by unfold ca; omega), nz _ (by unfold ca; omega)⟩, h.n1, h.n2⟩, f.mono (Nat.le_refl _) fun k _ hk e => hk ((mem_cz s _ k).2 (by simp at e; omega))⟩
end

/-- A box whose core c has K c. -/
def CX (w : World) (s : Nat) (K : Ks) : Prop := ∃ W O, CB w s K W O ∧ Al K ∧ ∀ i, 1 ≤ i → i ≤ 32 → O i = oc K i
theorem CX.heap {w w1 : World} {s : Nat} {K : Ks} (h : CX w s K) (e : w1.heap = w.heap) : CX w1 s K := by
  obtain ⟨W, O, b, a, o⟩ := h
  exact ⟨W, O, b.heap e, a, o⟩
theorem CX.keep {B : Nat} {S : List Nat} {w w' : World} {s : Nat} {K : Ks} (h : CX w s K) (f : Fr B S w w') (hB : w.heap.size ≤ B) (hS : ∀ k, s ≤ k → k < s + (4 + 2 * K.length) → k ∉ S) : CX w' s K := by
  obtain ⟨W, O, b, a, o⟩ := h
  exact ⟨W, O, b.keep f hB hS, a, o⟩
theorem CX.below {w w' : World} {s : Nat} {K : Ks} (h : CX w s K) (f : Below w.heap.size w w') : CX w' s K := h.keep (Fr.of_below f) (Nat.le_refl _) (by simp)
theorem CX.hi {w : World} {s : Nat} {K : Ks} (h : CX w s K) : s + (4 + 2 * K.length) ≤ w.heap.size := by
  obtain ⟨W, O, b, a, o⟩ := h
  exact b.hi
theorem CX.al {w : World} {s : Nat} {K : Ks} (h : CX w s K) : Al K := by
  obtain ⟨W, O, b, a, o⟩ := h
  exact a
theorem CX.n {w : World} {s : Nat} {K : Ks} (h : CX w s K) : 1 ≤ K.length ∧ K.length ≤ 64 := by
  obtain ⟨W, O, b, a, o⟩ := h
  exact ⟨b.n1, b.n2⟩

/-- The queue of a core. -/
theorem con_yes {w : World} {t tb n a : Nat} (c : Nat) (hc : (c : Int) < n) (c1 : w.cell? ⟨t, 1, none⟩ = some (.slice (some ⟨tb, 0, none⟩) n n)) (cw : w.cell? ⟨tb, c, none⟩ = some (.pointer (some ⟨a, 0, none⟩))) :
    Calls Tryd.prog 56 #[.pointer (some ⟨t, 0, none⟩), .int .i64 (c : Int)] w fun e w' => e = .returned (.tuple #[.pointer (some ⟨a, 0, none⟩), .int .i64 0]) ∧ w' = w := by
  go_enter Tryd.func56, Tryd.ntmps56
  go_wp2
  go_ret2
  exact ⟨rfl, rfl⟩
theorem con_no {w : World} {t tb n : Nat} (c : Int) (hc : isc n c = false) (c1 : w.cell? ⟨t, 1, none⟩ = some (.slice (some ⟨tb, 0, none⟩) n n)) :
    Calls Tryd.prog 56 #[.pointer (some ⟨t, 0, none⟩), .int .i64 c] w fun e w' => e = .returned (.tuple #[.pointer none, .int .i64 3]) ∧ w' = w := by
  rcases isc_false hc with q | ⟨q, q2⟩
  · clear hc
    go_enter Tryd.func56, Tryd.ntmps56
    go_wp2
    go_ret2
    exact ⟨rfl, rfl⟩
  · clear hc
    go_enter Tryd.func56, Tryd.ntmps56
    go_wp2
    go_ret2
    exact ⟨rfl, rfl⟩
theorem con_nil {w : World} (c : Int) :
    Calls Tryd.prog 56 #[.pointer none, .int .i64 c] w fun e w' => e = .returned (.tuple #[.pointer none, .int .i64 1]) ∧ w' = w := by
  go_enter Tryd.func56, Tryd.ntmps56
  go_wp2
  go_ret2
  exact ⟨rfl, rfl⟩

/-- Behind a number that is given out and queued. -/
theorem send_end {w w1 w2 : World} {s : Nat} {K : Ks} {W W' : List Nat} {O : Nat → Bool} {c i : Nat} (_b : CB w s K W O) (a : Al K) (o : ∀ i, 1 ≤ i → i ≤ 32 → O i = oc K i) (hc : c < K.length) (hi : nx K = some i)
    (b1 : CB w1 s K W' (st O (i + 1) true)) (f1 : Fr w.heap.size (cz s K.length) w w1) (q : QB w2 (ca s c) (ks K c ++ [((i + 1 : Nat) : Int)])) (f2 : Fr w1.heap.size [ca s c + 1, ca s c] w1 w2) :
    CX w2 s (K.set c (ks K c ++ [((i + 1 : Nat) : Int)])) ∧ Fr w.heap.size (cz s K.length) w w2 := by
  obtain ⟨h1, h2⟩ := nx_some hi
  obtain ⟨a2, e2⟩ := al_push a hc h2 (by omega) (by omega)
  obtain ⟨b2, g2⟩ := b1.put hc q f2
  refine ⟨⟨W', _, b2, a2, fun j j1 j2 => ?_⟩, f1.trans (g2.less f1.size)⟩
  rw [oc_push e2 (by omega)]
  unfold st
  by_cases z : j = i + 1
  · rw [if_pos z, if_pos (by omega)]
  · rw [if_neg z, if_neg (by omega), o j j1 j2]

set_option maxRecDepth 100000 in
set_option maxHeartbeats 1000000 in
theorem send_any {w : World} {s : Nat} {K : Ks} (c : Int) (h : CX w s K) (ht : Tab w) :
    Calls Tryd.prog 27 #[.pointer (some ⟨s + 3, 0, none⟩), .int .i64 c] w fun e w' => e = .returned (.tuple #[.int .i64 (seN K c), .int .i64 (seE K c)]) ∧ CX w' s (seK K c) ∧ Fr w.heap.size (cz s K.length) w w' := by
  have HX : Hid (CX w s K) := h
  obtain ⟨W, O, b, a, o⟩ := h
  unfold seN seE seK
  cases e : isc K.length c with
  | false =>
    have C : Hid (∀ _ : Unit, _) := fun _ => con_no c e b.c1
    rw [if_neg (by decide), if_neg (by decide), if_neg (by decide)]
    clear b a o e
    go_enter Tryd.func27, Tryd.ntmps27
    go_wp2_with fail
    refine (C.out ()).mono ?_
    rintro e w' ⟨rfl, rfl⟩
    go_wp2
    go_ret2
    exact ⟨rfl, HX.out, Fr.refl _ _ _⟩
  | true =>
    obtain ⟨k, rfl, hk, hk2⟩ := isc_nat e
    rw [if_pos rfl, if_pos rfl, if_pos rfl, Int.toNat_natCast]
    have C : Hid (∀ _ : Unit, _) := fun _ => con_yes k hk2 b.c1 (b.cq hk)
    have c0 := b.c0
    have D : Hid (∀ _ : Unit, _) := fun _ => stake_any w b.sl ht
    rw [ff_same o] at D
    cases hx : nx K with
    | none =>
      rw [hx] at D
      have FE : Hid (∀ w1 : World, (∃ W', T w1 (s + 1) s 32 W' (tO O none)) → Fr w.heap.size [s + 1, s] w w1 → CX w1 s K ∧ Fr w.heap.size (cz s K.length) w w1) := fun w1 ⟨W', q⟩ f => by
        obtain ⟨b1, f1⟩ := b.slot q f
        exact ⟨⟨W', _, b1, a, o⟩, f1⟩
      rw [show tN none = 0 from rfl, show tE none = 5 from rfl] at D ⊢
      rw [show psh K k none = K from rfl]
      clear b a o e HX
      go_enter Tryd.func27, Tryd.ntmps27
      go_wp2_with fail
      refine (C.out ()).mono ?_
      rintro e w' ⟨rfl, rfl⟩
      go_wp2_with fail
      refine (D.out ()).mono ?_
      rintro e w1 ⟨rfl, q, f⟩
      have F1 : Hid _ := FE.out w1 q f
      clear q f FE
      go_wp2
      go_ret2
      exact ⟨rfl, F1.out⟩
    | some i =>
      rw [hx] at D
      obtain ⟨h1, h2⟩ := nx_some hx
      have rm := a.room h2 (by omega) (by omega) hk
      obtain ⟨p1, p2⟩ := push_ok (onc_none.1 h2 k) rm
      have FE : Hid (∀ w1 : World, (∃ W', T w1 (s + 1) s 32 W' (tO O (some i))) → Fr w.heap.size [s + 1, s] w w1 → Hid (Calls Tryd.prog 51 #[.pointer (some ⟨ca s k + 1, 0, none⟩), .int .i64 ((i + 1 : Nat) : Int)] w1 fun e w' => e = .returned (.int .i64 0) ∧ CX w' s (K.set k (ks K k ++ [((i + 1 : Nat) : Int)])) ∧ Fr w.heap.size (cz s K.length) w w')) := fun w1 ⟨W', q⟩ f => by
        obtain ⟨b1, f1⟩ := b.slot q f
        refine (qpush_any ((i + 1 : Nat) : Int) (b1.qs k hk)).mono ?_
        rw [p1, p2]
        rintro e w2 ⟨rfl, q2, f2⟩
        exact ⟨rfl, send_end b a o hk hx b1 f1 q2 f2⟩
      rw [show tN (some i) = ((i + 1 : Nat) : Int) from rfl, show tE (some i) = 0 from rfl] at D ⊢
      rw [show psh K k (some i) = K.set k (ks K k ++ [((i + 1 : Nat) : Int)]) from rfl]
      clear b a o e HX hx h1 h2 rm p1 p2
      generalize ((i + 1 : Nat) : Int) = x at *
      go_enter Tryd.func27, Tryd.ntmps27
      go_wp2_with fail
      refine (C.out ()).mono ?_
      rintro e w' ⟨rfl, rfl⟩
      go_wp2_with fail
      refine (D.out ()).mono ?_
      rintro e w1 ⟨rfl, q, f⟩
      have F1 := FE.out w1 q f
      clear q f FE
      go_wp2_with fail
      refine F1.out.mono ?_
      rintro e w2 ⟨rfl, q2⟩
      have F2 : Hid _ := q2
      clear q2
      go_wp2
      go_ret2
      exact ⟨rfl, F2.out⟩

/-- Behind a number that is taken out of its queue, and free. -/
theorem ctake_end {w w1 w2 : World} {s : Nat} {K : Ks} {W W' : List Nat} {O : Nat → Bool} {c : Nat} (_b : CB w s K W O) (a : Al K) (o : ∀ i, 1 ≤ i → i ≤ 32 → O i = oc K i) (hp : ks K c ≠ [])
    (b1 : CB w1 s (K.set c (ks K c).tail) W O) (f1 : Fr w.heap.size (cz s K.length) w w1) (q : T w2 (s + 1) s 32 W' (gO 32 O ((ks K c).headD 0))) (f2 : Fr w1.heap.size [s + 1, s] w1 w2) :
    CX w2 s (K.set c (ks K c).tail) ∧ Fr w.heap.size (cz s K.length) w w2 := by
  obtain ⟨a2, e2⟩ := al_pop a hp
  have hr := a.rg c _ (hd_mem hp)
  obtain ⟨b2, g2⟩ := b1.slot q f2
  rw [List.length_set] at g2
  refine ⟨⟨W', _, b2, a2, fun j j1 j2 => ?_⟩, f1.trans (g2.less f1.size)⟩
  have hs1 : hs 32 O ((ks K c).headD 0) = true := by rw [hs_is a o]; unfold haB; rw [(onc_iff a).2 (hd_mem hp)]; rfl
  rw [oc_gone e2 (by omega)]
  unfold gO
  rw [if_pos hs1]
  unfold st
  by_cases z : j = ((ks K c).headD 0).toNat
  · rw [if_pos z, if_pos z]
  · rw [if_neg z, if_neg z, o j j1 j2]

set_option maxRecDepth 100000 in
set_option maxHeartbeats 1000000 in
theorem ctake_any {w : World} {s : Nat} {K : Ks} (c : Int) (h : CX w s K) :
    Calls Tryd.prog 29 #[.pointer (some ⟨s + 3, 0, none⟩), .int .i64 c] w fun e w' => e = .returned (.tuple #[.int .i64 (ckN K c), .int .i64 (ckE K c)]) ∧ CX w' s (ckK K c) ∧ Fr w.heap.size (cz s K.length) w w' := by
  have HX : Hid (CX w s K) := h
  obtain ⟨W, O, b, a, o⟩ := h
  unfold ckN ckE ckK
  cases e : isc K.length c with
  | false =>
    have C : Hid (∀ _ : Unit, _) := fun _ => con_no c e b.c1
    rw [if_neg (by decide), if_neg (by decide), if_neg (by decide)]
    clear b a o e
    go_enter Tryd.func29, Tryd.ntmps29
    go_wp2_with fail
    refine (C.out ()).mono ?_
    rintro e w' ⟨rfl, rfl⟩
    go_wp2
    go_ret2
    exact ⟨rfl, HX.out, Fr.refl _ _ _⟩
  | true =>
    obtain ⟨k, rfl, hk, hk2⟩ := isc_nat e
    rw [if_pos rfl, if_pos rfl, if_pos rfl, Int.toNat_natCast]
    have C : Hid (∀ _ : Unit, _) := fun _ => con_yes k hk2 b.c1 (b.cq hk)
    have D : Hid (∀ _ : Unit, _) := fun _ => qpop_any (b.qs k hk)
    by_cases hp : ks K k = []
    · have FE : Hid (∀ w1 : World, QB w1 (ca s k) (ks K k).tail → Fr w.heap.size [ca s k + 1, ca s k] w w1 → CX w1 s (K.set k (ks K k).tail) ∧ Fr w.heap.size (cz s K.length) w w1) := fun w1 q f => by
        obtain ⟨b1, f1⟩ := b.put hk q f
        rw [set_same K k _ (by rw [hp]; rfl)] at b1 ⊢
        exact ⟨⟨W, O, b1, a, o⟩, f1⟩
      rw [show fE (ks K k) = 12 from if_pos hp, show (ks K k).headD 0 = 0 by rw [hp]; rfl] at D ⊢
      clear b a o e HX hp
      go_enter Tryd.func29, Tryd.ntmps29
      go_wp2_with fail
      refine (C.out ()).mono ?_
      rintro e w' ⟨rfl, rfl⟩
      go_wp2_with fail
      refine (D.out ()).mono ?_
      rintro e w1 ⟨rfl, q, f⟩
      have F1 : Hid _ := FE.out w1 q f
      clear q f FE
      go_wp2
      go_ret2
      exact ⟨rfl, F1.out⟩
    · have FE : Hid (∀ w1 : World, QB w1 (ca s k) (ks K k).tail → Fr w.heap.size [ca s k + 1, ca s k] w w1 → w1.cell? ⟨s + 3, 0, none⟩ = some (.pointer (some ⟨s + 1, 0, none⟩)) ∧ Hid (Calls Tryd.prog 58 #[.pointer (some ⟨s + 1, 0, none⟩), .int .i64 ((ks K k).headD 0)] w1 fun e w' => e = .returned (.int .i64 0) ∧ CX w' s (K.set k (ks K k).tail) ∧ Fr w.heap.size (cz s K.length) w w')) := fun w1 q f => by
        obtain ⟨b1, f1⟩ := b.put hk q f
        refine ⟨b1.c0, (sgive_any ((ks K k).headD 0) w1 b1.sl).mono ?_⟩
        rintro e w2 ⟨rfl, ⟨W', q2⟩, f2⟩
        refine ⟨?_, ctake_end b a o hp b1 f1 q2 f2⟩
        have hs1 : hs 32 O ((ks K k).headD 0) = true := by rw [hs_is a o]; unfold haB; rw [(onc_iff a).2 (hd_mem hp)]; rfl
        unfold gE
        rw [if_pos hs1]
      rw [show fE (ks K k) = 0 from if_neg hp] at D ⊢
      clear b a o e HX hp
      generalize (ks K k).headD 0 = x at *
      go_enter Tryd.func29, Tryd.ntmps29
      go_wp2_with fail
      refine (C.out ()).mono ?_
      rintro e w' ⟨rfl, rfl⟩
      go_wp2_with fail
      refine (D.out ()).mono ?_
      rintro e w1 ⟨rfl, q, f⟩
      obtain ⟨d0, F1⟩ := FE.out w1 q f
      clear q f FE
      go_wp2_with fail
      refine F1.out.mono ?_
      rintro e w2 ⟨rfl, q2⟩
      have F2 : Hid _ := q2
      clear q2
      go_wp2
      go_ret2
      exact ⟨rfl, F2.out⟩

set_option maxRecDepth 100000 in
set_option maxHeartbeats 1000000 in
theorem cmove_any {w : World} {s : Nat} {K : Ks} (c d : Int) (h : CX w s K) :
    Calls Tryd.prog 31 #[.pointer (some ⟨s + 3, 0, none⟩), .int .i64 c, .int .i64 d] w fun e w' => e = .returned (.tuple #[.int .i64 (moN K c d), .int .i64 (moE K c d)]) ∧ CX w' s (moK K c d) ∧ Fr w.heap.size (cz s K.length) w w' := by
  have HX : Hid (CX w s K) := h
  obtain ⟨W, O, b, a, o⟩ := h
  unfold moN moE moK
  cases e : isc K.length c with
  | false =>
    have C : Hid (∀ _ : Unit, _) := fun _ => con_no c e b.c1
    rw [if_neg (by simp), if_neg (by simp), if_neg (by simp)]
    clear b a o e
    go_enter Tryd.func31, Tryd.ntmps31
    go_wp2_with fail
    refine (C.out ()).mono ?_
    rintro e w' ⟨rfl, rfl⟩
    go_wp2
    go_ret2
    exact ⟨rfl, HX.out, Fr.refl _ _ _⟩
  | true =>
    obtain ⟨k, rfl, hk, hk2⟩ := isc_nat e
    have C : Hid (∀ _ : Unit, _) := fun _ => con_yes k hk2 b.c1 (b.cq hk)
    cases e2 : isc K.length d with
    | false =>
      have D : Hid (∀ _ : Unit, _) := fun _ => con_no d e2 b.c1
      rw [if_neg (by simp), if_neg (by simp), if_neg (by simp)]
      clear b a o e e2
      go_enter Tryd.func31, Tryd.ntmps31
      go_wp2_with fail
      refine (C.out ()).mono ?_
      rintro e w' ⟨rfl, rfl⟩
      go_wp2_with fail
      refine (D.out ()).mono ?_
      rintro e w' ⟨rfl, rfl⟩
      go_wp2
      go_ret2
      exact ⟨rfl, HX.out, Fr.refl _ _ _⟩
    | true =>
      obtain ⟨l, rfl, hl, hl2⟩ := isc_nat e2
      have D : Hid (∀ _ : Unit, _) := fun _ => con_yes l hl2 b.c1 (b.cq hl)
      by_cases q : (k : Int) = l
      · rw [if_neg (fun z => z.2.2 q), if_pos ⟨rfl, rfl⟩, if_pos q, if_neg (fun z => z.2.2 q)]
        have q2 : ((k : Int) == (l : Int)) = true := by simpa using q
        clear b a o e e2 q
        go_enter Tryd.func31, Tryd.ntmps31
        go_wp2_with fail
        refine (C.out ()).mono ?_
        rintro e w' ⟨rfl, rfl⟩
        go_wp2_with fail
        refine (D.out ()).mono ?_
        rintro e w' ⟨rfl, rfl⟩
        go_wp2
        go_ret2
        exact ⟨rfl, HX.out, Fr.refl _ _ _⟩
      · rw [if_pos ⟨rfl, rfl, q⟩, if_pos ⟨rfl, rfl⟩, if_neg q, if_pos ⟨rfl, rfl, q⟩, Int.toNat_natCast, Int.toNat_natCast]
        have q2 : ((k : Int) == (l : Int)) = false := by simpa using q
        have P : Hid (∀ _ : Unit, _) := fun _ => qpop_any (b.qs k hk)
        have hn : k ≠ l := by omega
        by_cases hp : ks K k = []
        · have FE : Hid (∀ w1 : World, QB w1 (ca s k) (ks K k).tail → Fr w.heap.size [ca s k + 1, ca s k] w w1 → CX w1 s (mv K k l) ∧ Fr w.heap.size (cz s K.length) w w1) := fun w1 q f => by
            obtain ⟨b1, f1⟩ := b.put hk q f
            rw [set_same K k _ (by rw [hp]; rfl)] at b1
            rw [show mv K k l = K from if_pos hp]
            exact ⟨⟨W, O, b1, a, o⟩, f1⟩
          rw [show fE (ks K k) = 12 from if_pos hp, show (ks K k).headD 0 = 0 by rw [hp]; rfl] at P ⊢
          clear b a o e e2 HX hp q hn
          go_enter Tryd.func31, Tryd.ntmps31
          go_wp2_with fail
          refine (C.out ()).mono ?_
          rintro e w' ⟨rfl, rfl⟩
          go_wp2_with fail
          refine (D.out ()).mono ?_
          rintro e w' ⟨rfl, rfl⟩
          go_wp2_with fail
          refine (P.out ()).mono ?_
          rintro e w1 ⟨rfl, q, f⟩
          have F1 : Hid _ := FE.out w1 q f
          clear q f FE
          go_wp2
          go_ret2
          exact ⟨rfl, F1.out⟩
        · obtain ⟨a2, ea⟩ := al_move a hl hn hp
          have hm : ks (K.set k (ks K k).tail) l = ks K l := by rw [ks_set _ _ _ _ hk, if_neg (fun z => hn z.symm)]
          have no : (ks K k).headD 0 ∉ ks K l := fun z => hn (a.one k l _ (hd_mem hp) z)
          have rm : (ks K l).length < 32 := by
            have := a2.len l
            rw [ks_set _ _ _ _ (by simpa using hl), if_pos rfl] at this
            simp at this
            omega
          obtain ⟨p1, p2⟩ := push_ok no rm
          have FE : Hid (∀ w1 : World, QB w1 (ca s k) (ks K k).tail → Fr w.heap.size [ca s k + 1, ca s k] w w1 → Hid (Calls Tryd.prog 51 #[.pointer (some ⟨ca s l + 1, 0, none⟩), .int .i64 ((ks K k).headD 0)] w1 fun e w' => e = .returned (.int .i64 0) ∧ CX w' s (mv K k l) ∧ Fr w.heap.size (cz s K.length) w w')) := fun w1 q f => by
            obtain ⟨b1, f1⟩ := b.put hk q f
            have q1 := b1.qs l (by simpa using hl)
            rw [hm] at q1
            refine (qpush_any ((ks K k).headD 0) q1).mono ?_
            rw [p1, p2]
            rintro e w2 ⟨rfl, q2, f2⟩
            obtain ⟨b2, g2⟩ := b1.put (c := l) (by simpa using hl) q2 f2
            rw [List.length_set] at g2
            rw [show mv K k l = (K.set k (ks K k).tail).set l (ks K l ++ [(ks K k).headD 0]) from if_neg hp]
            refine ⟨rfl, ⟨W, O, b2, a2, fun j j1 j2 => ?_⟩, f1.trans (g2.less f1.size)⟩
            have hr := a.rg k _ (hd_mem hp)
            rw [o j j1 j2, oc_push ea hr.1]
            by_cases z : j = ((ks K k).headD 0).toNat
            · rw [if_pos z, z]
              unfold oc
              rw [show ((((ks K k).headD 0).toNat : Nat) : Int) = (ks K k).headD 0 by omega, (onc_iff a).2 (hd_mem hp)]
              rfl
            · rw [if_neg z]
          rw [show fE (ks K k) = 0 from if_neg hp] at P ⊢
          clear b a o e e2 HX hp q hn a2 ea hm no rm p1 p2
          generalize (ks K k).headD 0 = x at *
          go_enter Tryd.func31, Tryd.ntmps31
          go_wp2_with fail
          refine (C.out ()).mono ?_
          rintro e w' ⟨rfl, rfl⟩
          go_wp2_with fail
          refine (D.out ()).mono ?_
          rintro e w' ⟨rfl, rfl⟩
          go_wp2_with fail
          refine (P.out ()).mono ?_
          rintro e w1 ⟨rfl, q, f⟩
          have F1 := FE.out w1 q f
          clear q f FE
          go_wp2_with fail
          refine F1.out.mono ?_
          rintro e w2 ⟨rfl, q2⟩
          have F2 : Hid _ := q2
          clear q2
          go_wp2
          go_ret2
          exact ⟨rfl, F2.out⟩

theorem chas_any {w : World} {s : Nat} {K : Ks} (id : Int) (h : CX w s K) :
    Calls Tryd.prog 33 #[.pointer (some ⟨s + 3, 0, none⟩), .int .i64 id] w fun e w' => e = .returned (.bool (haB K id)) ∧ w' = w := by
  obtain ⟨W, O, b, a, o⟩ := h
  have C : Hid (∀ _ : Unit, _) := fun _ => shas_any id w b.sl
  rw [hs_is a o] at C
  have c0 := b.c0
  generalize haB K id = x at *
  clear b a o
  go_enter Tryd.func33, Tryd.ntmps33
  go_wp2_with fail
  refine (C.out ()).mono ?_
  rintro e w' ⟨rfl, rfl⟩
  go_wp2
  go_ret
  exact ⟨rfl, rfl⟩

set_option maxHeartbeats 400000 in
theorem cload_any {w : World} {s : Nat} {K : Ks} (c : Int) (h : CX w s K) :
    Calls Tryd.prog 35 #[.pointer (some ⟨s + 3, 0, none⟩), .int .i64 c] w fun e w' => e = .returned (.int .i64 ((clL K c).length : Int)) ∧ w' = w := by
  obtain ⟨W, O, b, a, o⟩ := h
  unfold clL
  cases e : isc K.length c with
  | false =>
    have C : Hid (∀ _ : Unit, _) := fun _ => con_no c e b.c1
    have D : Hid (∀ w, _) := fun w => nil_len w
    rw [if_neg (by decide), show ((([] : List Int).length : Nat) : Int) = 0 from rfl]
    clear b a o e
    go_enter Tryd.func35, Tryd.ntmps35
    go_wp2_with fail
    refine (C.out ()).mono ?_
    rintro e w' ⟨rfl, rfl⟩
    go_wp2_with fail
    refine (D.out _).mono ?_
    rintro e w' ⟨rfl, rfl⟩
    go_wp2
    go_ret
    exact ⟨rfl, rfl⟩
  | true =>
    obtain ⟨k, rfl, hk, hk2⟩ := isc_nat e
    rw [if_pos rfl, Int.toNat_natCast]
    have C : Hid (∀ _ : Unit, _) := fun _ => con_yes k hk2 b.c1 (b.cq hk)
    have D : Hid (∀ _ : Unit, _) := fun _ => qlen_any (b.qs k hk)
    generalize (ks K k).length = l at *
    clear b a o e
    go_enter Tryd.func35, Tryd.ntmps35
    go_wp2_with fail
    refine (C.out ()).mono ?_
    rintro e w' ⟨rfl, rfl⟩
    go_wp2_with fail
    refine (D.out ()).mono ?_
    rintro e w' ⟨rfl, rfl⟩
    go_wp2
    go_ret
    exact ⟨rfl, rfl⟩

set_option maxHeartbeats 400000 in
theorem clist_any {w : World} {s : Nat} {K : Ks} (c : Int) (h : CX w s K) :
    Calls Tryd.prog 37 #[.pointer (some ⟨s + 3, 0, none⟩), .int .i64 c] w fun e w' => ∃ v, e = .returned v ∧ w'.ownsRow w.heap.size 3 1 v (clL K c).length ((clL K c).map (Value.int .i64)) ∧ Below w.heap.size w w' := by
  obtain ⟨W, O, b, a, o⟩ := h
  unfold clL
  cases e : isc K.length c with
  | false =>
    have C : Hid (∀ _ : Unit, _) := fun _ => con_no c e b.c1
    have D : Hid (∀ w, _) := fun w => nil_list w
    have F : Hid (w.ownsRow w.heap.size 3 1 (.slice none 0 0) ([] : List Int).length (([] : List Int).map (Value.int .i64)) ∧ Below w.heap.size w w) := ⟨World.ownsRow_nil _ _ _ _, Below.refl _ _⟩
    rw [if_neg (by decide)]
    clear b a o e
    go_enter Tryd.func37, Tryd.ntmps37
    go_wp2_with fail
    refine (C.out ()).mono ?_
    rintro e w' ⟨rfl, rfl⟩
    go_wp2_with fail
    refine (D.out _).mono ?_
    rintro e w' ⟨rfl, rfl⟩
    go_wp2
    go_ret
    exact ⟨_, rfl, F.out⟩
  | true =>
    obtain ⟨k, rfl, hk, hk2⟩ := isc_nat e
    rw [if_pos rfl, Int.toNat_natCast]
    have C : Hid (∀ _ : Unit, _) := fun _ => con_yes k hk2 b.c1 (b.cq hk)
    have D : Hid (∀ _ : Unit, _) := fun _ => qlist_any (b.qs k hk)
    clear b a o e
    go_enter Tryd.func37, Tryd.ntmps37
    go_wp2_with fail
    refine (C.out ()).mono ?_
    rintro e w' ⟨rfl, rfl⟩
    go_wp2_with fail
    refine (D.out ()).mono ?_
    rintro e w2 ⟨v, rfl, q⟩
    have F : Hid _ := q
    clear q
    go_wp2
    go_ret
    exact ⟨_, rfl, F.out⟩
end Go.Proofs.YtofdhljgchefgaaDoor
