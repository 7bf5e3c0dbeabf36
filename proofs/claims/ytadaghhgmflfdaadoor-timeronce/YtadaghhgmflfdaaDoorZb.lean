/- What timer's Cancel and Arm answer and leave. -/
import Derived.Test.YtadaghhgmflfdaaDoorRows
import Derived.Test.YtadaghhgmflfdaaDoorZa
import Derived.Test.YtadaghhgmflfdaaDoorWk
import Derived.WalkKit
import Derived.ProofKit
import Derived.OpenShut
import Derived.BigQuiet
namespace Go.Proofs.YtadaghhgmflfdaaDoor
open Go.ChangeShapes Go.WideShapes Go.ChangeAt Go.RowKit
open Wm Zm Sl

theorem zero3 (w : World) : (zeroValue 3).run Tryd.prog w = .ok (.int .i64 0) w := by kernel_rfl
theorem look3 {w : World} {b m : Nat} {f : Int → Option Int} (h : MQ 3 w b m f) {id : Int} (hi : (Lit.int .i64 id).wf = true) : (Instr.lookup 68 (.map (some b)) (.int .i64 id) true).run Tryd.prog w = .ok (.tuple #[.int .i64 ((f id).getD 0), .bool (f id).isSome]) w :=
  mq_look (tm := 68) Tryd.underlying3 Tryd.underlying68 zero3 h hi
theorem wf_small (c : Int) (h0 : 0 ≤ c) (h : c ≤ 64) : (Lit.int .i64 c).wf = true := by
  simp [Lit.wf, IntKind.min, IntKind.max, IntKind.signed, IntKind.bits]
  omega
theorem upd_id {α : Type} (x : α) (c : Nat) : upd (fun _ => x) c x = fun _ => x := funext fun j => by unfold upd; split <;> rfl

theorem cancel_no {w : World} {t n : Nat} {now : Int} {K : Ks} {F : List Nat} (id : Int) (hi : (Lit.int .i64 id).wf = true) (h : TX w t n now K F) (hn : onc n K id = none) :
    Calls Tryd.prog 28 #[.pointer (some ⟨t, 0, none⟩), .int .i64 id] w fun e w' => e = .returned (.int .i64 4) ∧ w' = w := by
  obtain ⟨sb, sg, tb, mb, S, G, W, O, b, a, o, rfl⟩ := h
  have l := look3 b.mp hi
  rw [cq_none.2 hn] at l
  have c2 := b.c2
  clear b a o hn hi
  go_enter Tryd.func28, Tryd.ntmps28
  go_wp2
  go_ret
  exact ⟨rfl, rfl⟩

theorem cancel_end {w : World} {t sb sg tb mb n : Nat} {S : Nat → Nat} {K : Ks} {G : Nat → List Nat} {W : List Nat} {O : Nat → Bool} {now : Int} {c : Nat} {id : Int} (a : Al n K) (o : ∀ i, 1 ≤ i → i ≤ 48 → O i = oc n K i) (hn : onc n K id = some c)
    (b : TB w t sb sg tb mb n (upd (fun _ => now) c now) S (up K c (rid id (K c))) G W (gO 48 O id) (cnt (oc n K) - 1) (fun j => if j = id then none else cq n K j)) :
    TX w t n now (up K c (rid id (K c))) (foot t sb sg tb mb n G) := by
  rw [upd_id] at b
  obtain ⟨hc, hh⟩ := (onc_iff a).1 hn
  obtain ⟨a2, e2⟩ := al_rid a hc hn
  have hr := a.rg c hc id hh
  have t1 : ((id.toNat : Nat) : Int) = id := by omega
  have h1 : oc n K id.toNat = true := by unfold oc; rw [t1, hn]; rfl
  have h2 : oc n (up K c (rid id (K c))) id.toNat = false := by unfold oc; rw [t1, e2, if_pos rfl]; rfl
  have h3 : ∀ j, j ≠ id.toNat → oc n K j = oc n (up K c (rid id (K c))) j := fun j hj => by unfold oc; rw [e2, if_neg (by omega)]
  have e3 : cnt (oc n K) = cnt (oc n (up K c (rid id (K c)))) + 1 := cnt_in (by omega) (by omega) h3 h1 h2
  have e4 : (fun j => if j = id then none else cq n K j) = cq n (up K c (rid id (K c))) := funext fun j => by
    unfold cq
    rw [e2]
    split <;> rfl
  rw [e3, Nat.add_sub_cancel, e4] at b
  refine ⟨sb, sg, tb, mb, S, G, W, _, b, a2, fun i i1 i2 => ?_, rfl⟩
  have hs1 : hs 48 O id = true := by
    unfold hs
    rw [o _ (by omega) (by omega), h1]
    simp
    omega
  unfold gO
  rw [if_pos hs1]
  unfold st
  by_cases q : i = id.toNat
  · rw [if_pos q, q, h2]
  · rw [if_neg q, o i i1 i2, h3 i q]

set_option maxRecDepth 100000 in
set_option maxHeartbeats 1000000 in
theorem cancel_yes {w : World} {t n c : Nat} {now : Int} {K : Ks} {F : List Nat} (id : Int) (hi : (Lit.int .i64 id).wf = true) (h : TX w t n now K F) (hn : onc n K id = some c) :
    Calls Tryd.prog 28 #[.pointer (some ⟨t, 0, none⟩), .int .i64 id] w fun e w' => e = .returned (.int .i64 0) ∧ ∃ F', TX w' t n now (up K c (rid id (K c))) F' ∧ Mv w w' F F' := by
  obtain ⟨sb, sg, tb, mb, S, G, W, O, b, a, o, rfl⟩ := h
  obtain ⟨hc, hh⟩ := (onc_iff a).1 hn
  have hcm : cq n K id = some (c : Int) := by unfold cq; rw [hn]; rfl
  have l := look3 b.mp hi
  rw [hcm] at l
  have c2 := b.c2
  obtain ⟨w1, r1, M1, f1⟩ := mq_del (tm := 68) Tryd.underlying68 b.mp hi (by rw [hcm]; rfl) 0
  obtain ⟨b1, v1⟩ := b.map M1 f1
  have d2 := b1.c2
  have d1 := b1.c1
  have dw := b1.cw hc
  have DR : Hid (∀ _ : Unit, _) := fun _ => drop_any id hi (b1.ws c hc) (Nat.le_trans (a.len hc) (by omega))
  rw [show dpE (K c) id = 0 from if_pos hh] at DR
  have hr := a.rg c hc id hh
  have ST : Hid (∀ w2 F', WW w2 (S c) now (rid id (K c)) F' → Mv w1 w2 (G c) F' → w2.cell? ⟨t, 0, none⟩ = some (.pointer (some ⟨sb, 0, none⟩)) ∧ Hid (Calls Tryd.prog 54 #[.pointer (some ⟨sb, 0, none⟩), .int .i64 id] w2 fun e w' => e = .returned (.int .i64 0) ∧ ∃ F', TX w' t n now (up K c (rid id (K c))) F' ∧ Mv w w' (foot t sb sg tb mb n G) F')) := fun w2 F' q v => by
    obtain ⟨b2, v2⟩ := b1.wheel hc q v
    refine ⟨b2.c0, (give_any id w2 b2.sl).mono ?_⟩
    rintro e w3 ⟨rfl, ⟨W', q3⟩, f3⟩
    obtain ⟨b3, v3⟩ := b2.slot q3 f3
    refine ⟨?_, _, cancel_end a o hn b3, (v1.trans v2).trans v3⟩
    have h1 : oc n K id.toNat = true := by unfold oc; rw [show ((id.toNat : Nat) : Int) = id by omega, hn]; rfl
    have hs1 : hs 48 O id = true := by
      unfold hs
      rw [o _ (by omega) (by omega), h1]
      simp
      omega
    unfold gE
    rw [if_pos hs1]
  have hc2 : (c : Int) < n := by omega
  generalize S c = s at *
  clear M1 f1 b1 v1 b a o hn hh hcm hr hi hc
  go_enter Tryd.func28, Tryd.ntmps28
  go_wp2_with fail
  refine (DR.out ()).mono ?_
  rintro e w2 ⟨rfl, F', q, v⟩
  obtain ⟨e0, GV⟩ := ST.out w2 F' q v
  clear q v ST DR
  go_wp2_with fail
  refine GV.out.mono ?_
  rintro e w3 ⟨rfl, FF⟩
  have FH : Hid _ := FF
  clear FF
  go_wp2
  go_ret
  exact ⟨rfl, FH.out⟩

theorem cancel_any {w : World} {t n : Nat} {now : Int} {K : Ks} {F : List Nat} (id : Int) (hi : (Lit.int .i64 id).wf = true) (h : TX w t n now K F) :
    Calls Tryd.prog 28 #[.pointer (some ⟨t, 0, none⟩), .int .i64 id] w fun e w' => e = .returned (.int .i64 (caE n K id)) ∧ ∃ F', TX w' t n now (caK n K id) F' ∧ Mv w w' F F' := by
  unfold caE caK
  cases hn : onc n K id with
  | none =>
    refine (cancel_no id hi h hn).mono ?_
    rintro e w' ⟨rfl, rfl⟩
    exact ⟨rfl, F, h, Mv.refl _ _⟩
  | some c => exact cancel_yes id hi h hn
end Go.Proofs.YtadaghhgmflfdaaDoor
