/- What runq's Prio, Put and Pick answer and leave, for all queues of cores. -/
import Derived.Test.YtpmjojemcpgpiaaDoorUa
import Derived.WalkKit
import Derived.ProofKit
import Derived.OpenShut
import Derived.BigQuiet
namespace Go.Proofs.YtpmjojemcpgpiaaDoor
open Go.ChangeShapes Go.WideShapes Go.ChangeAt Go.RowKit
open Fm Qm

/-- The priority of a thing on its core. -/
def rpN (n : Nat) (K : Ks) (id : Int) : Int := match onc n K id with | some c => prP (K c) id | none => 0

set_option maxRecDepth 100000 in
set_option maxHeartbeats 1000000 in
theorem rqprio_any {w : World} {s n m : Nat} {K : Ks} (id : Int) (hw : (Lit.int .i64 id).wf = true) (h : RR w s n m K) :
    Calls Tryd.prog 10 #[.pointer (some ⟨s + 2, 0, none⟩), .int .i64 id] w fun e w' => e = .returned (.tuple #[.int .i64 (rpN n K id), .bool (whB n K id)]) ∧ Below w.heap.size w w' := by
  have C : Hid (∀ _ : Unit, _) := fun _ => where_any id hw h
  cases e : onc n K id with
  | none =>
    rw [show whN n K id = 0 by unfold whN; rw [e]; rfl, show whB n K id = false by unfold whB; rw [e]; rfl] at C
    rw [show rpN n K id = 0 by unfold rpN; rw [e], show whB n K id = false by unfold whB; rw [e]; rfl]
    clear h e
    go_enter Tryd.func10, Tryd.ntmps10
    go_wp2_with fail
    refine (C.out ()).mono ?_
    rintro e w' ⟨rfl, rfl⟩
    go_wp2
    go_ret2
    exact ⟨rfl, Below.refl _ _⟩
  | some k =>
    obtain ⟨hk, hi⟩ := onc_spec e
    rw [show whN n K id = k by unfold whN; rw [e]; rfl, show whB n K id = true by unfold whB; rw [e]; rfl] at C
    rw [show rpN n K id = prP (K k) id by unfold rpN; rw [e], show whB n K id = true by unfold whB; rw [e]; rfl]
    have D : Hid (∀ _ : Unit, _) := fun _ => prio_any id w (h.rb.qs k hk)
    rw [decide_eq_true hi] at D
    have c0 := h.rb.c0
    have cq := h.rb.cq hk
    have hk2 : (k : Int) < n := by omega
    generalize prP (K k) id = p at *
    clear h e hi
    go_enter Tryd.func10, Tryd.ntmps10
    go_wp2_with fail
    refine (C.out ()).mono ?_
    rintro e w' ⟨rfl, rfl⟩
    go_wp2_with fail
    refine (D.out ()).mono ?_
    rintro e w2 ⟨rfl, b2⟩
    go_wp2
    go_ret2
    exact ⟨rfl, b2⟩

theorem ps_cases (m : Nat) (X : Its) (p n : Int) : (psE m X p n = 0 ∧ psX m X p n = X ++ [(p, n)] ∧ n ∉ ids X ∧ 0 ≤ p ∧ p < 8 ∧ X.length < m) ∨ (psE m X p n ≠ 0 ∧ psX m X p n = X) := by
  unfold psE psX
  by_cases a : p < 0 ∨ 8 ≤ p
  · rw [if_pos a, if_pos a]
    exact Or.inr ⟨by decide, rfl⟩
  rw [if_neg a, if_neg a]
  by_cases b : n ∈ ids X
  · rw [if_pos b, if_pos b]
    exact Or.inr ⟨by decide, rfl⟩
  rw [if_neg b, if_neg b]
  by_cases c : m ≤ X.length
  · rw [if_pos c, if_pos c]
    exact Or.inr ⟨by decide, rfl⟩
  rw [if_neg c, if_neg c]
  exact Or.inl ⟨rfl, rfl, b, by omega, by omega, by omega⟩
theorem up_id (K : Ks) (c : Nat) : up K c (K c) = K := by
  funext j
  by_cases e : j = c
  · subst e; rw [up_same]
  · rw [up_other _ e]

/-- What Put answers and leaves. -/
def puE (n : Nat) (K : Ks) (c p id : Int) : Int := if isC n c then (if whB n K id = true then 6 else psE 32 (K c.toNat) p id) else 3
def puK (n : Nat) (K : Ks) (c p id : Int) : Ks := if isC n c then (if whB n K id = true then K else up K c.toNat (psX 32 (K c.toNat) p id)) else K

theorem fr_map {w w' : World} {s n : Nat} (h : w.grownBy w' (some (s + 1))) : Fr w.heap.size [s + 1] w w' ∧ Fr w.heap.size (rz s n) w w' :=
  ⟨⟨h.os, h.tape, h.output, h.size, fun k hk hs => h.block k hk (fun e => hs (by cases e; simp))⟩, ⟨h.os, h.tape, h.output, h.size, fun k hk hs => h.block k hk (fun e => hs (by cases e; exact (mem_rz s n _).2 (by omega)))⟩⟩

set_option maxRecDepth 100000 in
set_option maxHeartbeats 2000000 in
theorem put_any {w : World} {s n m : Nat} {K : Ks} (c p id : Int) (hw : (Lit.int .i64 id).wf = true) (hm : m ≤ 10000) (h : RR w s n m K) :
    Calls Tryd.prog 23 #[.pointer (some ⟨s + 2, 0, none⟩), .int .i64 c, .int .i64 p, .int .i64 id] w fun e w' => e = .returned (.int .i64 (puE n K c p id)) ∧ RR w' s n (m + 1) (puK n K c p id) ∧ Fr w.heap.size (rz s n) w w' := by
  have up1 : ∀ {w : World} {K : Ks}, RR w s n m K → RR w s n (m + 1) K := fun h => ⟨h.rb, by obtain ⟨D, o, k⟩ := h.mp; exact ⟨D, o.mono (by omega), k⟩, h.al⟩
  have H0 : Hid (RR w s n (m + 1) K) := up1 h
  by_cases hc : isC n c
  · obtain ⟨k, rfl⟩ : ∃ k : Nat, c = (k : Int) := ⟨c.toNat, by unfold isC at hc; omega⟩
    have hk : (k : Int) < n := hc.2
    have C : Hid (∀ _ : Unit, _) := fun _ => isc_yes k hk h.rb
    have W : Hid (∀ _ : Unit, _) := fun _ => where_any id hw h
    cases e : onc n K id with
    | some d =>
      have eB : whB n K id = true := by unfold whB; rw [e]; rfl
      rw [show puE n K k p id = 6 by unfold puE; rw [if_pos hc, if_pos eB], show puK n K k p id = K by unfold puK; rw [if_pos hc, if_pos eB]]
      rw [eB] at W
      generalize whN n K id = wn at *
      clear h hc e eB
      go_enter Tryd.func23, Tryd.ntmps23
      go_wp2_with fail
      refine (C.out ()).mono ?_
      rintro e w' ⟨rfl, rfl⟩
      go_wp2_with fail
      refine (W.out ()).mono ?_
      rintro e w' ⟨rfl, rfl⟩
      go_wp2
      go_ret
      exact ⟨rfl, H0.out, Fr.refl _ _ _⟩
    | none =>
      have eB : whB n K id = false := by unfold whB; rw [e]; rfl
      have eB2 : ¬ whB n K id = true := by rw [eB]; decide
      rw [show puE n K k p id = psE 32 (K k) p id by unfold puE; rw [if_pos hc, if_neg eB2, Int.toNat_natCast], show puK n K k p id = up K k (psX 32 (K k) p id) by unfold puK; rw [if_pos hc, if_neg eB2, Int.toNat_natCast]]
      rw [eB] at W
      have P : Hid (∀ _ : Unit, _) := fun _ => ppush_any p id w (h.rb.qs k (by omega))
      have c0 := h.rb.c0
      have cq := h.rb.cq (c := k) (by omega)
      rcases ps_cases 32 (K k) p id with ⟨e1, e2, e3, e4, e5, e6⟩ | ⟨e1, e2⟩
      · obtain ⟨al, on⟩ := al_push h.al (c := k) (by omega) (p := p) hw e (ok_push (h.al.ok k (by omega)) ⟨e4, e5⟩ e3 e6)
        rw [e1, e2] at P
        rw [e1, e2]
        have ST : Hid (∀ w2 : World, PQ w2 (qa s k) 32 (K k ++ [(p, id)]) → Fr w.heap.size (zn (qa s k)) w w2 → w2.cell? ⟨s + 2, 1, none⟩ = some (.map (some (s + 1))) ∧ ∃ w3, (Instr.mapUpdate 47 (.map (some (s + 1))) (.int .i64 id) (.int .i64 (k : Int))).run Tryd.prog w2 = .ok () w3 ∧ RR w3 s n (m + 1) (up K k (K k ++ [(p, id)])) ∧ Fr w.heap.size (rz s n) w w3) := fun w2 q2 f2 => by
          have rb2 := h.rb.put (by omega) q2 f2
          have mp2 := RR.mp_zn h.mp f2
          obtain ⟨w3, r3, m3, g3⟩ := mp_put mp2 (by omega) hw k (by have := h.rb.n2; omega)
          obtain ⟨f3, f4⟩ := fr_map (n := n) g3
          refine ⟨rb2.c1, w3, r3, ⟨rb2.keep f3 rb2.hi (fun j _ _ hj => by simpa using hj), by rw [on]; exact m3, al⟩, (fr_rz (by omega) f2).trans (f4.less f2.size)⟩
        generalize whN n K id = wn at *
        generalize K k ++ [(p, id)] = X2 at *
        clear h hc e eB eB2 al on e1 e2 e3 e4 e5 e6
        unfold qa at cq P ST
        go_enter Tryd.func23, Tryd.ntmps23
        go_wp2_with fail
        refine (C.out ()).mono ?_
        rintro e w' ⟨rfl, rfl⟩
        go_wp2_with fail
        refine (W.out ()).mono ?_
        rintro e w' ⟨rfl, rfl⟩
        go_wp2_with fail
        refine (P.out ()).mono ?_
        rintro e w2 ⟨rfl, q2, f2⟩
        obtain ⟨c1, w3, r3, R3, F3⟩ := ST.out w2 q2 f2
        have HR : Hid (RR w3 s n (m + 1) (up K k X2)) := R3
        clear q2 f2 R3
        go_wp2
        go_ret
        exact ⟨rfl, HR.out, F3⟩
      · rw [e2] at P
        rw [e2, up_id]
        have ST : Hid (∀ w2 : World, PQ w2 (qa s k) 32 (K k) → Fr w.heap.size (zn (qa s k)) w w2 → RR w2 s n (m + 1) K ∧ Fr w.heap.size (rz s n) w w2) := fun w2 q2 f2 => by
          have rb2 := h.rb.put (by omega) q2 f2
          rw [up_id] at rb2
          exact ⟨up1 ⟨rb2, RR.mp_zn h.mp f2, h.al⟩, fr_rz (by omega) f2⟩
        generalize whN n K id = wn at *
        generalize psE 32 (K k) p id = ee at *
        have e3 : (ee != 0) = true := by simpa using e1
        clear h hc e eB eB2 e1 e2
        unfold qa at cq P ST
        go_enter Tryd.func23, Tryd.ntmps23
        go_wp2_with fail
        refine (C.out ()).mono ?_
        rintro e w' ⟨rfl, rfl⟩
        go_wp2_with fail
        refine (W.out ()).mono ?_
        rintro e w' ⟨rfl, rfl⟩
        go_wp2_with fail
        refine (P.out ()).mono ?_
        rintro e w2 ⟨rfl, q2, f2⟩
        have R2 := ST.out w2 q2 f2
        clear q2 f2
        go_wp2
        go_ret
        exact ⟨rfl, R2.1, R2.2⟩
  · rw [show puE n K c p id = 3 from if_neg hc, show puK n K c p id = K from if_neg hc]
    have C : Hid (∀ _ : Unit, _) := fun _ => isc_no c hc h.rb
    clear h hc
    go_enter Tryd.func23, Tryd.ntmps23
    go_wp2_with fail
    refine (C.out ()).mono ?_
    rintro e w' ⟨rfl, rfl⟩
    go_wp2
    go_ret
    exact ⟨rfl, H0.out, Fr.refl _ _ _⟩

/-- What Pick answers and leaves. -/
def pkN (n : Nat) (K : Ks) (c : Int) : Int := if isC n c then tpN (K c.toNat) else 0
def pkE (n : Nat) (K : Ks) (c : Int) : Int := if isC n c then tpE (K c.toNat) else 3
def pkK (n : Nat) (K : Ks) (c : Int) : Ks := if isC n c then up K c.toNat (tnX (K c.toNat)) else K

set_option maxRecDepth 100000 in
set_option maxHeartbeats 2000000 in
theorem pick_any {w : World} {s n m : Nat} {K : Ks} (c : Int) (h : RR w s n m K) :
    Calls Tryd.prog 24 #[.pointer (some ⟨s + 2, 0, none⟩), .int .i64 c] w fun e w' => e = .returned (.tuple #[.int .i64 (pkN n K c), .int .i64 (pkE n K c)]) ∧ RR w' s n m (pkK n K c) ∧ Fr w.heap.size (rz s n) w w' := by
  have H0 : Hid (RR w s n m K) := h
  by_cases hc : isC n c
  · rw [show pkN n K c = tpN (K c.toNat) from if_pos hc, show pkE n K c = tpE (K c.toNat) from if_pos hc, show pkK n K c = up K c.toNat (tnX (K c.toNat)) from if_pos hc]
    obtain ⟨k, rfl⟩ : ∃ k : Nat, c = (k : Int) := ⟨c.toNat, by unfold isC at hc; omega⟩
    have hk : (k : Int) < n := hc.2
    rw [Int.toNat_natCast]
    have C : Hid (∀ _ : Unit, _) := fun _ => isc_yes k hk h.rb
    have T : Hid (∀ _ : Unit, _) := fun _ => top_any w (h.rb.qs k (by omega))
    have c0 := h.rb.c0
    have cq := h.rb.cq (c := k) (by omega)
    by_cases hX : K k = []
    · rw [show tpE (K k) = 12 from if_pos hX, show tpN (K k) = 0 by rw [hX]; rfl] at T
      rw [show tpE (K k) = 12 from if_pos hX, show tpN (K k) = 0 by rw [hX]; rfl, show tnX (K k) = K k from if_pos hX, up_id]
      clear h hc hX
      unfold qa at cq T
      go_enter Tryd.func24, Tryd.ntmps24
      go_wp2_with fail
      refine (C.out ()).mono ?_
      rintro e w' ⟨rfl, rfl⟩
      go_wp2_with fail
      refine (T.out ()).mono ?_
      rintro e w2 ⟨rfl, b2⟩
      go_wp2
      go_ret2
      exact ⟨rfl, H0.out.below b2, (Fr.of_below b2).mono (Nat.le_refl _) (fun _ _ _ => by simp)⟩
    · rw [show tpE (K k) = 0 from if_neg hX] at T
      rw [show tpE (K k) = 0 from if_neg hX]
      obtain ⟨al, on⟩ := al_same h.al (c := k) (by omega) (ok_tnX (h.al.ok k (by omega))) (fun id => ids_tn (h.al.ok k (by omega)) id)
      have U : Hid (∀ w2 : World, Below w.heap.size w w2 → w2.cell? ⟨s + 2, 0, none⟩ = some (.slice (some ⟨s, 0, none⟩) n n) ∧ w2.cell? ⟨s, k, none⟩ = some (.pointer (some ⟨qa s k, 0, none⟩)) ∧ Calls Tryd.prog 47 #[.pointer (some ⟨qa s k, 0, none⟩)] w2 fun e w' => e = .returned (.int .i64 0) ∧ RR w' s n m (up K k (tnX (K k))) ∧ Fr w.heap.size (rz s n) w w') := fun w2 b2 => by
        have h2 := h.below b2
        have := pturn_any w2 (h2.rb.qs k (by omega))
        rw [show tpE (K k) = 0 from if_neg hX] at this
        refine ⟨h2.rb.c0, h2.rb.cq (by omega), this.mono ?_⟩
        rintro e w3 ⟨rfl, q3, f3⟩
        exact ⟨rfl, ⟨h2.rb.put (by omega) q3 f3, by rw [on]; exact RR.mp_zn h2.mp f3, al⟩, fr_below b2 (fr_rz (by omega) f3) rfl⟩
      generalize tpN (K k) = tn at *
      generalize tnX (K k) = X2 at *
      clear h hc hX al on
      unfold qa at cq T U
      go_enter Tryd.func24, Tryd.ntmps24
      go_wp2_with fail
      refine (C.out ()).mono ?_
      rintro e w' ⟨rfl, rfl⟩
      go_wp2_with fail
      refine (T.out ()).mono ?_
      rintro e w2 ⟨rfl, b2⟩
      obtain ⟨d0, dq, U2⟩ := U.out w2 b2
      have U3 : Hid (∀ _ : Unit, _) := fun _ => U2
      clear b2 U2
      go_wp2_with fail
      refine (U3.out ()).mono ?_
      rintro e w3 ⟨rfl, r3, f3⟩
      go_wp2
      go_ret2
      exact ⟨rfl, r3, f3⟩
  · rw [show pkN n K c = 0 from if_neg hc, show pkE n K c = 3 from if_neg hc, show pkK n K c = K from if_neg hc]
    have C : Hid (∀ _ : Unit, _) := fun _ => isc_no c hc h.rb
    clear h hc
    go_enter Tryd.func24, Tryd.ntmps24
    go_wp2_with fail
    refine (C.out ()).mono ?_
    rintro e w' ⟨rfl, rfl⟩
    go_wp2
    go_ret2
    exact ⟨rfl, H0.out, Fr.refl _ _ _⟩
end Go.Proofs.YtpmjojemcpgpiaaDoor
