/- What runq's Back and Take answer and leave, for all queues of cores. -/
import Derived.Test.YtpmjojemcpgpiaaDoorUb
import Derived.Test.YtpmjojemcpgpiaaDoorQk
import Derived.WalkKit
import Derived.ProofKit
import Derived.OpenShut
import Derived.BigQuiet
import Derived.Maps.OwnSet
namespace Go.Proofs.YtpmjojemcpgpiaaDoor
open Go.ChangeShapes Go.WideShapes Go.ChangeAt Go.RowKit
open Fm Qm

/-- What Back and Take answer and leave. -/
def rbE (n : Nat) (K : Ks) (id : Int) : Int := if whB n K id = true then 0 else 4
def rbK (n : Nat) (K : Ks) (id : Int) : Ks := match onc n K id with | some c => up K c (bkX (K c) id) | none => K
def rtK (n : Nat) (K : Ks) (id : Int) : Ks := match onc n K id with | some c => up K c (del (K c) id) | none => K

theorem mp_del {w : World} {b n : Nat} {f : Int → Option Nat} (h : MP w b n f) {id : Int} (hw : (Lit.int .i64 id).wf = true) (ty : TypeId) :
    ∃ w', (Builtin.delete_ #[47, 3] ty #[.map (some b), .int .i64 id]).run Tryd.prog w = .ok (.tuple #[]) w' ∧ MP w' b n (setO f id none) ∧ Fr w.heap.size [b] w w' := by
  obtain ⟨D, o, k⟩ := h
  obtain ⟨w', hrun, r1, r2⟩ := o.drop law3 Tryd.underlying47 (Maps.keyOf_int_mk Tryd.underlying3 hw) ty
  refine ⟨w', hrun, ⟨_, r1, fun j hj => ?_⟩, ?_⟩
  · unfold setO
    by_cases e : j = id
    · subst e
      rw [if_pos rfl]
      exact ⟨Maps.has_del_same, Maps.atKey_del_same _⟩
    · rw [if_neg e]
      have ne : (Lit.int .i64 j) ≠ Lit.int .i64 id := fun q => e (by cases q; rfl)
      rw [Maps.has_del_other ne, Maps.atKey_del_other ne]
      exact k j hj
  · have g := r2.grown
    exact ⟨g.os, g.tape, g.output, g.size, fun k hk hs => g.block k hk (fun e => hs (by cases e; simp))⟩

set_option maxRecDepth 100000 in
set_option maxHeartbeats 1000000 in
theorem rqback_any {w : World} {s n m : Nat} {K : Ks} (id : Int) (hw : (Lit.int .i64 id).wf = true) (h : RR w s n m K) :
    Calls Tryd.prog 28 #[.pointer (some ⟨s + 2, 0, none⟩), .int .i64 id] w fun e w' => e = .returned (.int .i64 (rbE n K id)) ∧ RR w' s n m (rbK n K id) ∧ Fr w.heap.size (rz s n) w w' := by
  have C : Hid (∀ _ : Unit, _) := fun _ => where_any id hw h
  have H0 : Hid (RR w s n m K) := h
  cases e : onc n K id with
  | none =>
    have eB : whB n K id = false := by unfold whB; rw [e]; rfl
    rw [show whN n K id = 0 by unfold whN; rw [e]; rfl, eB] at C
    rw [show rbE n K id = 4 by unfold rbE; rw [eB]; rfl, show rbK n K id = K by unfold rbK; rw [e]]
    clear h e eB
    go_enter Tryd.func28, Tryd.ntmps28
    go_wp2_with fail
    refine (C.out ()).mono ?_
    rintro e w' ⟨rfl, rfl⟩
    go_wp2
    go_ret
    exact ⟨rfl, H0.out, Fr.refl _ _ _⟩
  | some k =>
    obtain ⟨hk, hi⟩ := onc_spec e
    have eB : whB n K id = true := by unfold whB; rw [e]; rfl
    rw [show whN n K id = k by unfold whN; rw [e]; rfl, eB] at C
    rw [show rbE n K id = 0 by unfold rbE; rw [eB]; rfl, show rbK n K id = up K k (bkX (K k) id) by unfold rbK; rw [e]]
    have D : Hid (∀ _ : Unit, _) := fun _ => pback_any id w (h.rb.qs k hk)
    rw [show drE (K k) id = 0 from if_pos hi] at D
    obtain ⟨al, on⟩ := al_same h.al hk (ok_bkX (h.al.ok k hk) id) (fun j => ids_bk (h.al.ok k hk) id j)
    have ST : Hid (∀ w2 : World, PQ w2 (qa s k) 32 (bkX (K k) id) → Fr w.heap.size (zn (qa s k)) w w2 → RR w2 s n m (up K k (bkX (K k) id)) ∧ Fr w.heap.size (rz s n) w w2) := fun w2 q2 f2 =>
      ⟨⟨h.rb.put hk q2 f2, by rw [on]; exact RR.mp_zn h.mp f2, al⟩, fr_rz hk f2⟩
    have c0 := h.rb.c0
    have cq := h.rb.cq hk
    have hk2 : (k : Int) < n := by omega
    generalize bkX (K k) id = X2 at *
    clear h e hi eB al on
    unfold qa at cq D ST
    go_enter Tryd.func28, Tryd.ntmps28
    go_wp2_with fail
    refine (C.out ()).mono ?_
    rintro e w' ⟨rfl, rfl⟩
    go_wp2_with fail
    refine (D.out ()).mono ?_
    rintro e w2 ⟨rfl, q2, f2⟩
    have R2 := ST.out w2 q2 f2
    clear q2 f2
    go_wp2
    go_ret
    exact ⟨rfl, R2.1, R2.2⟩

set_option maxRecDepth 100000 in
set_option maxHeartbeats 1000000 in
theorem rqtake_any {w : World} {s n m : Nat} {K : Ks} (id : Int) (hw : (Lit.int .i64 id).wf = true) (h : RR w s n m K) :
    Calls Tryd.prog 30 #[.pointer (some ⟨s + 2, 0, none⟩), .int .i64 id] w fun e w' => e = .returned (.int .i64 (rbE n K id)) ∧ RR w' s n m (rtK n K id) ∧ Fr w.heap.size (rz s n) w w' := by
  have C : Hid (∀ _ : Unit, _) := fun _ => where_any id hw h
  have H0 : Hid (RR w s n m K) := h
  cases e : onc n K id with
  | none =>
    have eB : whB n K id = false := by unfold whB; rw [e]; rfl
    rw [show whN n K id = 0 by unfold whN; rw [e]; rfl, eB] at C
    rw [show rbE n K id = 4 by unfold rbE; rw [eB]; rfl, show rtK n K id = K by unfold rtK; rw [e]]
    clear h e eB
    go_enter Tryd.func30, Tryd.ntmps30
    go_wp2_with fail
    refine (C.out ()).mono ?_
    rintro e w' ⟨rfl, rfl⟩
    go_wp2
    go_ret
    exact ⟨rfl, H0.out, Fr.refl _ _ _⟩
  | some k =>
    obtain ⟨hk, hi⟩ := onc_spec e
    have eB : whB n K id = true := by unfold whB; rw [e]; rfl
    rw [show whN n K id = k by unfold whN; rw [e]; rfl, eB] at C
    rw [show rbE n K id = 0 by unfold rbE; rw [eB]; rfl, show rtK n K id = up K k (del (K k) id) by unfold rtK; rw [e]]
    obtain ⟨al, on⟩ := al_del h.al hk hi
    obtain ⟨w5, r5, m5, f5⟩ := mp_del h.mp hw 0
    have f5' : Fr w.heap.size (rz s n) w w5 := f5.mono (Nat.le_refl _) fun j _ hj q => hj (by simp at q; subst q; exact (mem_rz s n _).2 (by omega))
    have rb5 := h.rb.keep f5 h.rb.hi (fun j _ _ hj => by simpa using hj)
    have D : Hid (∀ _ : Unit, _) := fun _ => pdrop_any id w5 (rb5.qs k hk)
    rw [show drE (K k) id = 0 from if_pos hi] at D
    have ST : Hid (∀ w6 : World, PQ w6 (qa s k) 32 (del (K k) id) → Fr w5.heap.size (zn (qa s k)) w5 w6 → RR w6 s n m (up K k (del (K k) id)) ∧ Fr w.heap.size (rz s n) w w6) := fun w6 q6 f6 =>
      ⟨⟨rb5.put hk q6 f6, by rw [on]; exact RR.mp_zn m5 f6, al⟩, f5'.trans ((fr_rz hk f6).less f5'.size)⟩
    have c1 := h.rb.c1
    have d0 := rb5.c0
    have dq := rb5.cq hk
    have hk2 : (k : Int) < n := by omega
    generalize del (K k) id = X2 at *
    clear h e hi eB al on rb5 m5 f5 f5'
    unfold qa at dq D ST
    go_enter Tryd.func30, Tryd.ntmps30
    go_wp2_with fail
    refine (C.out ()).mono ?_
    rintro e w' ⟨rfl, rfl⟩
    go_wp2_with fail
    refine (D.out ()).mono ?_
    rintro e w2 ⟨rfl, q2, f2⟩
    have R2 := ST.out w2 q2 f2
    clear q2 f2
    go_wp2
    go_ret
    exact ⟨rfl, R2.1, R2.2⟩
end Go.Proofs.YtpmjojemcpgpiaaDoor
